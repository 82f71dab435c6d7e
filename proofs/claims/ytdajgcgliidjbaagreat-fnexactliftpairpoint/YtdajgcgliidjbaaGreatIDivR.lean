import Derived.Test.YtdajgcgliidjbaaGreatIMid
import Derived.Test.YtdajgcgliidjbaaGreatILow
import Derived.Deep.RegionLaw
set_option maxRecDepth 8000
set_option maxHeartbeats 8000000
namespace Go.Proofs.YtdajgcgliidjbaaGreat
open Go.RowKit
attribute [local go_sem ↓] Go.wp_at_zero Go.wp_at_succ
theorem yields_load {ops : Array Oper} {S : World → Prop} {o : Oper} {a : Act} (hgd : o.guard = none) (x : Operand) (ho : o.op = .load 100 x) (g : Nat) (l : List Nat) (c : Nat)
  (hx : a.eval x = .pointer (some ⟨g, 0, none⟩)) (h : ∀ w, S w → RowI w g l c) : YieldsIf Tryz.prog ops S o (.agg (rowC l c)) a := by
 refine .inl ⟨by simp only [Region.wanted, hgd], fun w hw => ?_⟩
 unfold execOp
 simp only [ho, hx]
 have e := (h w hw).load
 simp only [Sem.run_bind, e, Result.andThen_ok, Sem.run_pure]
theorem store_op {ops : Array Oper} {i : Nat} {o : Oper} {a : Act} {w : World} {K : Act → World → Prop} {Q : Exit → Act → World → Prop} (hi : ops[i]? = some o) (hgd : o.guard = none) (x y : Operand) (ho : o.op = .store 100 x y) (g : Nat) (l l' : List Nat) (c c' : Nat)
  (hx : a.eval x = .pointer (some ⟨g, 0, none⟩)) (hy : a.eval y = .agg (rowC l' c')) (h : RowI w g l c) (hl : l'.length = 81) (k : K (a.put o.dst undef) (w.setRow g (rowC l' c'))) : wpOp Tryz.prog ops Q i K a w := by
 unfold wpOp
 simp only [hi, Region.wanted, hgd, if_true]
 exact .inl (wp_store_row _ x y ho g _ hx hy _ _ h.blk (by rw [rowC_size82 hl]; exact zero_row.2) (by rw [rowC_size82 hl, rowC_size82 h.len]) (rowC_one _ _) k)
theorem results_two {fn : Func} {p q : Tmp} {g g' c c' : Nat} {l l' : List Nat} {w : World} (hf : fn.results = #[.cell p 100, .cell q 100]) (tmps : Array Value) (h : RowI w g l c) (h' : RowI w g' l' c')
  (hp : tmps.getD p undef = .pointer (some ⟨g, 0, none⟩)) (hq : tmps.getD q undef = .pointer (some ⟨g', 0, none⟩)) : (results fn tmps).run Tryz.prog w = .ok (.tuple #[.agg (rowC l c), .agg (rowC l' c')]) w := by
 have e1 := run_loadVar_row (P := Tryz.prog) w g _ 100 _ _ _ h.blk Tryz.underlying100 rfl (by rw [rowC_size82 h.len]; exact zero_row.2)
 have e2 := run_loadVar_row (P := Tryz.prog) w g' _ 100 _ _ _ h'.blk Tryz.underlying100 rfl (by rw [rowC_size82 h'.len]; exact zero_row.2)
 have hp' : tmps[p]?.getD undef = .pointer (some ⟨g, 0, none⟩) := by simpa using hp
 have hq' : tmps[q]?.getD undef = .pointer (some ⟨g', 0, none⟩) := by simpa using hq
 simp [results, hf, hp', hq', asAddr, e1, e2, Sem.run_bind]
def DivAgg (X Y : Nat) (w : World) (e : Ending) (w' : World) : Prop :=
 ∃ lq cq lr cr, e = .returned (.tuple #[.agg (rowC lq cq), .agg (rowC lr cr)]) ∧ lq.length = 81 ∧ lr.length = 81 ∧ RV lq cq ∧ RV lr cr ∧ W.lV lq = X / Y ∧ W.lV lr = X % Y ∧ cq ≤ 80 ∧ cr ≤ 80 ∧ Below w.heap.size w w'
structure DvW (lx : List Nat) (cx d k : Nat) (q : List Nat) (r : Nat) : Prop where
 lim : W.Limbs q
 len : q.length = 81
 rd : r < d
 sum : W.lV lx = d * W.lV q + 4294967296 ^ k * r + W.lV (lx.take k)
 low : ∀ j, j < k → q.getD j 0 = 0
 high : ∀ j, cx ≤ j → q.getD j 0 = 0
theorem DvW.start {lx : List Nat} {cx d : Nat} (hd : 0 < d) (zx : ∀ k, cx ≤ k → lx.getD k 0 = 0) : DvW lx cx d cx Z81 0 :=
 ⟨Z81_lim, Z81_len, hd, by rw [Z81_val, W.lV_take_all zx]; simp, fun j _ => Z81_getD j, fun j _ => Z81_getD j⟩
theorem DvW.next {lx q : List Nat} {cx d j r n y s : Nat} (h : DvW lx cx d (j + 1) q r) (hj : j < cx) (hcx : cx ≤ 81) (hd : 0 < d) (hn : r * 4294967296 + lx.getD j 0 = n) (hy : n / d = y) (hs : n % d = s) (hy32 : y < 4294967296) : DvW lx cx d j (q.set j y) s := by
 have hset := W.lV_set q j y (by rw [h.len]; omega)
 rw [h.low j (by omega), Nat.mul_zero, Nat.add_zero] at hset
 refine ⟨h.lim.set _ hy32, by rw [List.length_set]; exact h.len, by rw [← hs]; exact Nat.mod_lt _ hd, ?_, fun k hk => by rw [W.getD_set_ne _ (by omega)]; exact h.low k (by omega), fun k hk => by rw [W.getD_set_ne _ (by omega)]; exact h.high k hk⟩
 have hsum := h.sum
 rw [W.lV_take_succ, Nat.pow_succ, Nat.mul_assoc] at hsum
 have e : d * y + s = n := by rw [← hy, ← hs]; exact Nat.div_add_mod n d
 rw [hset, Nat.mul_add, Nat.mul_left_comm]
 have e2 : 4294967296 ^ j * (d * y) + 4294967296 ^ j * s = 4294967296 ^ j * (4294967296 * r) + 4294967296 ^ j * lx.getD j 0 := by
  rw [← Nat.mul_add, ← Nat.mul_add, e, ← hn, Nat.mul_comm 4294967296 r]
 omega
theorem DvW.done {lx q : List Nat} {cx d r : Nat} (h : DvW lx cx d 0 q r) : W.lV q = W.lV lx / d ∧ r = W.lV lx % d := by
 have hs := h.sum
 have hr := h.rd
 rw [Nat.pow_zero, Nat.one_mul, List.take_zero] at hs
 have hs2 : W.lV lx = d * W.lV q + r := by rw [hs]; rfl
 rw [hs2]
 exact ⟨by rw [Nat.mul_add_div (by omega), Nat.div_eq_of_lt hr]; omega, by rw [Nat.mul_add_mod, Nat.mod_eq_of_lt hr]⟩
def one81 (r : Nat) : List Nat := Z81.set 0 r
theorem one81_len (r : Nat) : (one81 r).length = 81 := by unfold one81; rw [List.length_set]; exact Z81_len
theorem one81_set (r s : Nat) : (one81 r).set 0 s = one81 s := by unfold one81; rw [List.set_set]
theorem one81_zero : one81 0 = Z81 := by
 unfold one81
 exact List.ext_getElem (by simp) fun i h1 h2 => by simp [Z81]
theorem one81_at (r : Nat) : (one81 r).getD 0 0 = r := by
 unfold one81
 simp [Z81]
theorem one81_high (r : Nat) : ∀ k, 1 ≤ k → (one81 r).getD k 0 = 0 := fun k hk => by unfold one81; rw [W.getD_set_ne _ (by omega)]; exact Z81_getD k
theorem one81_lim {r : Nat} (h : r < 4294967296) : W.Limbs (one81 r) := Z81_lim.set _ h
theorem one81_val (r : Nat) : W.lV (one81 r) = r := by
 have := W.lV_set Z81 0 r (by rw [Z81_len]; omega)
 rw [Z81_getD, Z81_val] at this
 unfold one81
 simpa using this
structure Work4 (w wr : World) (q : List Nat) (cq : Nat) (r : List Nat) (cr : Nat) : Prop where
 o1 : RowI wr w.heap.size Z81 0
 o2 : RowI wr (w.heap.size + 1) Z81 0
 q : RowI wr (w.heap.size + 2) q cq
 r : RowI wr (w.heap.size + 3) r cr
 b : Below w.heap.size w wr
theorem Work4.start (w : World) {Z : Array Value} (hZ : rowC Z81 0 = Z) : Work4 w ((((w.alloc (.cells Z 100)).alloc (.cells Z 100)).alloc (.cells Z 100)).alloc (.cells Z 100)) Z81 0 Z81 0 := by
 have h1 := Work.start w hZ
 have h2 := Work.start ((w.alloc (.cells Z 100)).alloc (.cells Z 100)) hZ
 have hs : ((w.alloc (.cells Z 100)).alloc (.cells Z 100)).heap.size = w.heap.size + 2 := by simp
 rw [show w.heap.size + 2 = w.heap.size + 2 from rfl] at hs
 refine ⟨h1.out.below h2.b (by rw [hs]; omega), h1.row.below h2.b (by rw [hs]; omega), ?_, ?_, h1.b.trans (h2.b.mono (by rw [hs]; omega))⟩
 ·have := h2.out; rw [hs] at this; exact this
 ·have := h2.row; rw [hs] at this; exact this
theorem Work4.drewN {w wr : World} {q r : List Nat} {cq cr : Nat} (h : Work4 w wr q cq r cr) (k : Nat) : Work4 w (wr.drewN k) q cq r cr := ⟨h.o1.other rfl, h.o2.other rfl, h.q.other rfl, h.r.other rfl, bdN h.b k⟩
theorem Work4.setQ {w wr : World} {q r : List Nat} {cq cr k : Nat} (h : Work4 w wr q cq r cr) (y : Nat) (hk : k < 81) : Work4 w (wr.setCell ⟨w.heap.size + 2, k, none⟩ (.int .u32 (y : Int))) (q.set k y) cq r cr :=
 ⟨h.o1.apart (by omega), h.o2.apart (by omega), h.q.set y hk, h.r.apart (by omega), h.b.setCell (p := ⟨w.heap.size + 2, k, none⟩) (by simp) _⟩
theorem Work4.setR {w wr : World} {q r : List Nat} {cq cr k : Nat} (h : Work4 w wr q cq r cr) (y : Nat) (hk : k < 81) : Work4 w (wr.setCell ⟨w.heap.size + 3, k, none⟩ (.int .u32 (y : Int))) q cq (r.set k y) cr :=
 ⟨h.o1.apart (by omega), h.o2.apart (by omega), h.q.apart (by omega), h.r.set y hk, h.b.setCell (p := ⟨w.heap.size + 3, k, none⟩) (by simp) _⟩
theorem Work4.cntQ {w wr : World} {q r : List Nat} {cq cr : Nat} (h : Work4 w wr q cq r cr) (y : Nat) : Work4 w (wr.setCell ⟨w.heap.size + 2, 81, none⟩ (.int .i64 (y : Int))) q y r cr :=
 ⟨h.o1.apart (by omega), h.o2.apart (by omega), h.q.setC y, h.r.apart (by omega), h.b.setCell (p := ⟨w.heap.size + 2, 81, none⟩) (by simp) _⟩
theorem Work4.cntR {w wr : World} {q r : List Nat} {cq cr : Nat} (h : Work4 w wr q cq r cr) (y : Nat) : Work4 w (wr.setCell ⟨w.heap.size + 3, 81, none⟩ (.int .i64 (y : Int))) q cq r y :=
 ⟨h.o1.apart (by omega), h.o2.apart (by omega), h.q.apart (by omega), h.r.setC y, h.b.setCell (p := ⟨w.heap.size + 3, 81, none⟩) (by simp) _⟩
theorem divByLimb_any (gx cx d : Nat) (lx : List Nat) (w : World) (hx : RowI w gx lx cx) (vx : RV lx cx) (hcx : cx ≤ 80) (hd0 : 0 < d) (hd : d < 4294967296) :
  Calls Tryz.prog 194 #[.pointer (some ⟨gx, 0, none⟩), .int .u32 (d : Int)] w (DivAgg (W.lV lx) d w) := by
 obtain ⟨Z, hZ⟩ : ∃ Z, rowC Z81 0 = Z := ⟨_, rfl⟩
 have hz := zero_row.1
 rw [hZ] at hz
 have HZ := Lib.hid hZ
 have HX := Lib.hid hx
 have HVX := Lib.hid vx
 have ltx := hx.lt
 have HW := Work4.start w HZ.out
 obtain ⟨x1, x2⟩ := (HX.out.below HW.b ltx).cnt
 have HW1 := Lib.hid HW
 have n1 : ¬ gx = w.heap.size + 2 := by omega
 have n2 : ¬ gx = w.heap.size + 3 := by omega
 clear hZ hx vx HW
 go_enter Tryz.func194, Tryz.ntmps194
 go_wp2
 clear x1 x2 hz
 go_loopw [8] (fun iv wr => ∃ (k r : Nat) (q : List Nat), k ≤ cx ∧ iv = .int .i64 ((k : Int) - 1) ∧ Hid (DvW lx cx d k q r) ∧ Hid (Work4 w wr q 0 (one81 r) 0)) (fun iv _ => (intOf iv + 1).toNat)
 case atStart => exact ⟨cx, 0, Z81, Nat.le_refl _, rfl, DvW.start hd0 HVX.out.zero, by rw [one81_zero]; exact HW1⟩
 case round =>
  clear HW1
  obtain ⟨k, r, q, hk, rfl, hI, hW⟩ := hrel
  by_cases h0 : 0 < k
  ·obtain ⟨j, rfl⟩ : ∃ j, k = j + 1 := ⟨k - 1, by omega⟩
   have hji : (((j + 1 : Nat) : Int) - 1) = (j : Int) := by omega
   rw [hji]
   have hj0 : (0 : Int) ≤ (j : Int) := by omega
   have hj81 : (j : Int) < 81 := by omega
   obtain ⟨x1, _⟩ := (HX.out.below hW.out.b ltx).cell (k := j) (by omega)
   obtain ⟨r1, fr⟩ := hW.out.r.cell (k := 0) (by omega)
   rw [one81_at] at r1
   obtain ⟨q1, fq⟩ := hW.out.q.cell (k := j) (by omega)
   generalize q.getD j 0 = z at *
   have bx := W.getD_lt HVX.out.lim j
   obtain ⟨x, hx⟩ : ∃ x, lx.getD j 0 = x := ⟨_, rfl⟩
   rw [hx] at x1 bx
   obtain ⟨n, hn⟩ : ∃ n, r * 4294967296 + x = n := ⟨_, rfl⟩
   obtain ⟨y, hy⟩ : ∃ y, n / d = y := ⟨_, rfl⟩
   obtain ⟨s, hs⟩ : ∃ s, n % d = s := ⟨_, rfl⟩
   have hbd := div32_bd hI.out.rd hd bx hn
   rw [hy, hs] at hbd
   have HN := Lib.hid (hI.out.next (by omega) (by omega) hd0 (by rw [hx]; exact hn) hy hs hbd.1)
   have HA := Lib.hid (fun w => div32_any r x d n y s hI.out.rd hd bx hn hy hs w)
   have W5 := (hW.out.setQ (k := j) y (by omega)).setR (k := 0) s (by omega)
   rw [one81_set] at W5
   have HW5 := Lib.hid W5
   clear hx hn hy hs hbd hI hW W5 hji
   go_wp2_with fail
   go_region_law (first | (go_simp; go_at_call 201; refine (HA.out _).mono ?_; rintro e w' ⟨rfl, nk, rfl⟩))
   all_goals (
    go_wp2
    go_roundw
    case rel => exact ⟨j, s, q.set j y, by omega, by go_num, HN, HW5.out.drewN _⟩
    case measure => simp [intOf])
  ·obtain rfl : k = 0 := by omega
   have hneg : ¬ (0 : Int) ≤ ((0 : Nat) : Int) - 1 := by omega
   obtain ⟨x1, x2⟩ := (HX.out.below hW.out.b ltx).cnt
   have HD := Lib.hid hI.out.done
   have hr32 : r < 4294967296 := Nat.lt_trans hI.out.rd hd
   have HC := Lib.hid (countBelow_any (w.heap.size + 2) 0 cx q _ hW.out.q (by omega))
   have HRq := Lib.hid (fun k (h : CountRel q cx k) => And.intro (h.right hI.out.lim hI.out.high) h.le)
   have HRr := Lib.hid (fun k (h : CountRel (one81 r) 1 k) => And.intro (h.right (one81_lim hr32) (one81_high r)) h.le)
   have HLq := Lib.hid hI.out.len
   clear hI
   go_wp2_with fail
   refine HC.out.mono ?_
   rintro e w1 ⟨cq, hcq, rfl, rfl⟩
   have W5 := hW.out.cntQ cq
   have HVq := Lib.hid (HRq.out cq hcq)
   clear HC HRq hcq hW x1 x2
   generalize wr.setCell ⟨w.heap.size + 2, 81, none⟩ (.int .i64 (cq : Int)) = w2 at *
   have HC2 := Lib.hid (countBelow_any (w.heap.size + 3) 0 1 (one81 r) _ W5.r (by omega))
   have HW5 := Lib.hid W5
   clear W5
   go_wp2_with fail
   refine HC2.out.mono ?_
   rintro e w1 ⟨cr, hcr, rfl, rfl⟩
   have W6 := HW5.out.cntR cr
   have HVr := Lib.hid (HRr.out cr hcr)
   clear HC2 HRr hcr HW5
   generalize w2.setCell ⟨w.heap.size + 3, 81, none⟩ (.int .i64 (cr : Int)) = w3 at *
   have W7 := W6.drewN 1
   change Work4 w w3.drew q cq (one81 r) cr at W7
   have HL1 := one81_len r
   have HW7 := Lib.hid W7
   have HO1 := (W7.o1.stored (c' := cq) HLq.out)
   have HO2 := (W7.o2.storedApart (g' := w.heap.size) (cs := rowC q cq) (by omega)).stored (c' := cr) HL1
   have HO1' := Lib.hid (HO1.storedApart (g' := w.heap.size + 1) (cs := rowC (one81 r) cr) (by omega))
   have HO2' := Lib.hid HO2
   have HB := Lib.hid (below_setRow (below_setRow W7.b (Nat.le_refl _) (rowC q cq)) (show w.heap.size ≤ w.heap.size + 1 by omega) (rowC (one81 r) cr))
   have HL := Lib.hid HL1
   clear W6 W7 HO1 HO2 HL1
   go_wp2_with fail
   refine wp_region_held (S := fun w' => RowI w' (w.heap.size + 2) q cq ∧ RowI w' (w.heap.size + 3) (one81 r) cr) (by kernel_rfl) ?_
   change wpAnyH _ _ _ _ _ _ _ _ w3.drew
   generalize w3.drew = w4 at *
   refine wpAnyH_take (i := 0) (v := .agg (rowC q cq)) rfl (by kernel_rfl) (by kernel_rfl) (by kernel_rfl) (fun _ _ _ h => h) (yields_load rfl (.tmp 6) rfl (w.heap.size + 2) q cq rfl fun _ h => h.1) ⟨HW7.out.q, HW7.out.r⟩ ?_
   refine wpAnyH_take (i := 1) (v := .agg (rowC (one81 r) cr)) rfl (by kernel_rfl) (by kernel_rfl) (by kernel_rfl) (fun _ _ _ h => h) (yields_load rfl (.tmp 7) rfl (w.heap.size + 3) (one81 r) cr rfl fun _ h => h.2) ⟨HW7.out.q, HW7.out.r⟩ ?_
   refine wpAnyH_all (rs := [2]) (by kernel_rfl) (by decide) ?_
   intro i hi
   obtain rfl : i = 2 := by simpa using hi
   refine store_op rfl rfl (.tmp 4) (.tmp 43) rfl w.heap.size Z81 q 0 cq rfl rfl HW7.out.o1 HLq.out ⟨⟨HW7.out.q.storedApart (by omega), HW7.out.r.storedApart (by omega)⟩, ?_⟩
   refine wpAnyH_all (rs := [3]) (by kernel_rfl) (by decide) ?_
   intro i hi
   obtain rfl : i = 3 := by simpa using hi
   refine store_op rfl rfl (.tmp 5) (.tmp 44) rfl (w.heap.size + 1) Z81 (one81 r) 0 cr rfl rfl (HW7.out.o2.storedApart (by omega)) HL.out ⟨⟨(HW7.out.q.storedApart (by omega)).storedApart (by omega), (HW7.out.r.storedApart (by omega)).storedApart (by omega)⟩, ?_⟩
   refine wpAnyH_done (by kernel_rfl) ?_ _
   go_wp2
   exact bodyPost_ret (results_two Tryz.results194 _ HO1'.out HO2'.out rfl rfl) rfl ⟨q, cq, one81 r, cr, rfl, HLq.out, HL.out, HVq.out.1, HVr.out.1, HD.out.1, by rw [one81_val]; exact HD.out.2, by have := HVq.out.2; omega, by have := HVr.out.2; omega, HB.out⟩
end Go.Proofs.YtdajgcgliidjbaaGreat
namespace Go.Proofs.YtdajgcgliidjbaaGreat
open Go.RowKit
attribute [local go_sem ↓] Go.wp_at_zero Go.wp_at_succ
structure Two (w wr : World) (gu gv : Nat) (U : List Nat) (cu : Nat) (v : List Nat) (n : Nat) : Prop where
 u : RowI wr gu U cu
 v : RowI wr gv v n
 ne : gu ≠ gv
 g : w.grownBy wr (some gu)
theorem Two.refl {w : World} {gu gv cu n : Nat} {U v : List Nat} (hu : RowI w gu U cu) (hv : RowI w gv v n) (hne : gu ≠ gv) : Two w w gu gv U cu v n :=
 ⟨hu, hv, hne, ⟨rfl, rfl, rfl, Nat.le_refl _, fun _ _ _ => rfl⟩⟩
theorem Two.drewN {w wr : World} {gu gv cu n : Nat} {U v : List Nat} (h : Two w wr gu gv U cu v n) (k : Nat) : Two w (wr.drewN k) gu gv U cu v n :=
 ⟨h.u.other rfl, h.v.other rfl, h.ne, ⟨h.g.os, h.g.tape, h.g.output, h.g.size, h.g.block⟩⟩
theorem Two.set {w wr : World} {gu gv cu n k : Nat} {U v : List Nat} (h : Two w wr gu gv U cu v n) (y : Nat) (hk : k < 81) : Two w (wr.setCell ⟨gu, k, none⟩ (.int .u32 (y : Int))) gu gv (U.set k y) cu v n :=
 ⟨h.u.set y hk, h.v.apart (Ne.symm h.ne), h.ne, ⟨h.g.os, h.g.tape, h.g.output, by simpa using h.g.size, fun i hi hr => (Below.heap_setCell _ _ _ _ (fun e => hr (by rw [e]))).trans (h.g.block i hi hr)⟩⟩
def TakePost (gu gv cu n : Nat) (v : List Nat) (P : List Nat → Nat → Prop) (w : World) (e : Ending) (w' : World) : Prop :=
 ∃ Q br, P Q br ∧ br ≤ 1 ∧ e = .returned (.bool ((br : Int) != 0)) ∧ Two w w' gu gv Q cu v n
theorem takeTimes_any (gu gv cu n at_ g : Nat) (U v : List Nat) (w : World) (hT : Two w w gu gv U cu v n) (Lu : W.Limbs U) (Lv : W.Limbs v) (zv : ∀ k, n ≤ k → v.getD k 0 = 0) (hat : at_ + n < 81) (hg : g < 4294967296) :
  Calls Tryz.prog 203 #[.pointer (some ⟨gu, 0, none⟩), .pointer (some ⟨gv, 0, none⟩), .int .i64 (at_ : Int), .int .u32 (g : Int)] w (TakePost gu gv cu n v (fun Q br => W.D.MS U v at_ g (n + 1) br Q) w) := by
 have HT := Lib.hid hT
 have HU := Lib.hid Lu
 have HV := Lib.hid Lv
 have HZ := Lib.hid zv
 obtain ⟨x1, x2⟩ := hT.v.cnt
 clear hT Lu Lv zv
 go_enter Tryz.func203, Tryz.ntmps203
 go_wp2
 clear x1 x2
 go_loopw [9, 10, 17] (fun cv bv iv wr => ∃ (i c b : Nat) (Q : List Nat), i ≤ n ∧ c < 4294967296 ∧ b ≤ 1 ∧ iv = .int .i64 i ∧ cv = .int .u64 c ∧ bv = .int .u32 b ∧ Hid (W.D.MS U v at_ g i (c + b) Q) ∧ Hid (Two w wr gu gv Q cu v n)) (fun _ _ iv _ => n - (intOf iv).toNat)
 case atStart => exact ⟨0, 0, 0, U, Nat.zero_le _, by omega, by omega, rfl, rfl, rfl, W.D.MS.start HU.out at_ g, HT⟩
 case round =>
  clear HT
  obtain ⟨i, c, b, Q, hin, hc, hb, rfl, rfl, rfl, hI, hW⟩ := hrel
  by_cases hlt : i < n
  ·have hlt' : (i : Int) < (n : Int) := by omega
   obtain ⟨v1, _⟩ := hW.out.v.cell (k := i) (by omega)
   obtain ⟨z1, f1⟩ := hW.out.u.cell (k := at_ + i) (by omega)
   have bv := W.getD_lt HV.out i
   have bz := W.getD_lt hI.out.1 (at_ + i)
   obtain ⟨y, hy⟩ : ∃ y, v.getD i 0 = y := ⟨_, rfl⟩
   obtain ⟨z, hz⟩ : ∃ z, Q.getD (at_ + i) 0 = z := ⟨_, rfl⟩
   rw [hy] at v1 bv
   rw [hz] at z1 bz
   obtain ⟨p, hp⟩ : ∃ p, g * y = p := ⟨_, rfl⟩
   obtain ⟨m, hm⟩ : ∃ m, c + p = m := ⟨_, rfl⟩
   obtain ⟨m1, m2, _, m4, m5⟩ := mul_bd hg bv (z := 0) (by omega) hc hp rfl (show c + (p + 0) = m by omega)
   rw [Nat.add_zero] at m4
   obtain ⟨lo, hlo⟩ : ∃ lo, m % 4294967296 = lo := ⟨_, rfl⟩
   obtain ⟨hi', hhi⟩ : ∃ h, m / 4294967296 = h := ⟨_, rfl⟩
   rw [hhi] at m5
   have hlo2 : lo < 4294967296 := by omega
   obtain ⟨d, hd, hn⟩ := brw_sub bz hlo2 hb
   obtain ⟨q, hq⟩ : ∃ q, brw z lo b = q := ⟨_, rfl⟩
   have hq1 : q ≤ 1 := by rw [← hq]; exact brw_le z lo b
   rw [hq] at hn
   have hNx := hI.out.next (y := d) (br' := hi' + q) HV.out (by rw [hW.out.u.len]; omega) hd (by rw [hz, hy, hp]; omega)
   have HN := Lib.hid hNx
   have HA := Lib.hid (fun w => sub32_any z lo b d q bz hlo2 hb hq hn w)
   obtain ⟨u1, u2⟩ := u32_of hlo
   have u3 : (m : Int) / 4294967296 = (hi' : Int) := by omega
   have a1 := u64_of hg
   have a2 := u64_of bv
   have HW3 := Lib.hid ((hW.out.drewN 1).set (k := at_ + i) d (by omega))
   have q0 : IntKind.i64.wrap ((at_ : Int) + (i : Int)) = (at_ : Int) + (i : Int) := IntWalk.i64_in _ (by omega)
   have q1 : (0 : Int) ≤ (at_ : Int) + (i : Int) := by omega
   have q2 : (at_ : Int) + (i : Int) < 81 := by omega
   have q3 : ((at_ : Int) + (i : Int)).toNat = at_ + i := by omega
   have q6 : (0 : Int) ≤ (i : Int) := by omega
   have q7 : (i : Int) < 81 := by omega
   clear hy hz hp hm hlo hhi hn hq hI hW hNx
   go_wp2_with fail
   go_region_law (first | (go_simp; go_at_call 193; refine (HA.out _).mono ?_; rintro e w' ⟨rfl, rfl⟩))
   clear q0 a1 a2
   go_wp2
   go_roundw
   case rel => exact ⟨i + 1, hi', q, Q.set (at_ + i) d, by omega, m5, hq1, by go_num, rfl, rfl, HN, HW3⟩
   case measure => simp [intOf]; omega
  ·obtain rfl : i = n := by omega
   have hlt' : ¬ (i : Int) < (i : Int) := by omega
   obtain ⟨n1, _⟩ := hW.out.v.cnt
   obtain ⟨z1, f1⟩ := hW.out.u.cell (k := at_ + i) (by omega)
   have bz := W.getD_lt hI.out.1 (at_ + i)
   obtain ⟨z, hz⟩ : ∃ z, Q.getD (at_ + i) 0 = z := ⟨_, rfl⟩
   rw [hz] at z1 bz
   obtain ⟨d, hd, hn⟩ := brw_sub bz hc hb
   obtain ⟨q, hq⟩ : ∃ q, brw z c b = q := ⟨_, rfl⟩
   have hq1 : q ≤ 1 := by rw [← hq]; exact brw_le z c b
   rw [hq] at hn
   have hNx := hI.out.next (y := d) (br' := q) HV.out (by rw [hW.out.u.len]; omega) hd (by rw [hz, HZ.out i (Nat.le_refl _)]; omega)
   have HA := Lib.hid (fun w => sub32_any z c b d q bz hc hb hq hn w)
   have HW3 := Lib.hid ((hW.out.drewN 1).set (k := at_ + i) d (by omega))
   have R0 : ∀ e, e = Ending.returned (.bool ((q : Int) != 0)) → TakePost gu gv cu i v (fun Q br => W.D.MS U v at_ g (i + 1) br Q) w e ((wr.drewN 1).setCell ⟨gu, at_ + i, none⟩ (.int .u32 (d : Int))) := fun e he => ⟨Q.set (at_ + i) d, q, hNx, hq1, he, HW3.out⟩
   have R := Lib.hid R0
   have q0 : (at_ : Int) + (i : Int) = ((at_ + i : Nat) : Int) := by omega
   obtain ⟨top, htop⟩ : ∃ top, at_ + i = top := ⟨_, rfl⟩
   rw [htop] at z1 f1 R q0
   have q1 : (0 : Int) ≤ (top : Int) := by omega
   have q2 : (top : Int) < 81 := by omega
   have u1 : IntKind.u32.wrap (c : Int) = (c : Int) := by rw [IntKind.wrap_u32]; omega
   clear hz hn hq hI hW hNx htop R0 HW3
   go_wp2_with fail
   go_region_law (first | (go_simp; go_at_call 193; refine (HA.out _).mono ?_; rintro e w' ⟨rfl, rfl⟩))
   clear q0
   go_wp2
   go_ret
   exact R.out _ rfl
def BackPost (gu gv cu n : Nat) (v : List Nat) (P : List Nat → Prop) (w : World) (e : Ending) (w' : World) : Prop :=
 ∃ R, P R ∧ e = .returned (.tuple #[]) ∧ Two w w' gu gv R cu v n
theorem addBack_any (gu gv cu n at_ : Nat) (U v : List Nat) (w : World) (hT : Two w w gu gv U cu v n) (Lu : W.Limbs U) (Lv : W.Limbs v) (zv : ∀ k, n ≤ k → v.getD k 0 = 0) (hat : at_ + n < 81) :
  Calls Tryz.prog 204 #[.pointer (some ⟨gu, 0, none⟩), .pointer (some ⟨gv, 0, none⟩), .int .i64 (at_ : Int)] w (BackPost gu gv cu n v (fun R => ∃ c, W.D.AB U v at_ (n + 1) c R) w) := by
 have HT := Lib.hid hT
 have HU := Lib.hid Lu
 have HV := Lib.hid Lv
 have HZ := Lib.hid zv
 obtain ⟨x1, x2⟩ := hT.v.cnt
 clear hT Lu Lv zv
 go_enter Tryz.func204, Tryz.ntmps204
 go_wp2
 clear x1 x2
 go_loopw [6, 12] (fun cv iv wr => ∃ (i c : Nat) (Q : List Nat), i ≤ n ∧ c ≤ 1 ∧ iv = .int .i64 i ∧ cv = .int .u32 c ∧ Hid (W.D.AB U v at_ i c Q) ∧ Hid (Two w wr gu gv Q cu v n)) (fun _ iv _ => n - (intOf iv).toNat)
 case atStart => exact ⟨0, 0, U, Nat.zero_le _, by omega, rfl, rfl, W.D.AB.start HU.out at_, HT⟩
 case round =>
  clear HT
  obtain ⟨i, c, Q, hin, hc, rfl, rfl, hI, hW⟩ := hrel
  by_cases hlt : i < n
  ·have hlt' : (i : Int) < (n : Int) := by omega
   obtain ⟨v1, _⟩ := hW.out.v.cell (k := i) (by omega)
   obtain ⟨z1, f1⟩ := hW.out.u.cell (k := at_ + i) (by omega)
   have bv := W.getD_lt HV.out i
   have bz := W.getD_lt hI.out.1 (at_ + i)
   obtain ⟨y, hy⟩ : ∃ y, v.getD i 0 = y := ⟨_, rfl⟩
   obtain ⟨z, hz⟩ : ∃ z, Q.getD (at_ + i) 0 = z := ⟨_, rfl⟩
   obtain ⟨m, hm⟩ : ∃ m, z + y + c = m := ⟨_, rfl⟩
   have hNx := hI.out.next (n := m) (by rw [hW.out.u.len]; omega) (by rw [hz, hy]; exact hm.symm)
   rw [hy] at v1 bv
   rw [hz] at z1 bz
   obtain ⟨p, hp⟩ : ∃ p, m % 4294967296 = p := ⟨_, rfl⟩
   obtain ⟨q, hq⟩ : ∃ q, m / 4294967296 = q := ⟨_, rfl⟩
   rw [hp, hq] at hNx
   have hq1 : q ≤ 1 := by omega
   have HN := Lib.hid hNx
   have HA := Lib.hid (fun w => add32_any z y c m p q bz bv hc hm hp hq w)
   have HW3 := Lib.hid ((hW.out.drewN 1).set (k := at_ + i) p (by omega))
   have q0 : IntKind.i64.wrap ((at_ : Int) + (i : Int)) = (at_ : Int) + (i : Int) := IntWalk.i64_in _ (by omega)
   have q1 : (0 : Int) ≤ (at_ : Int) + (i : Int) := by omega
   have q2 : (at_ : Int) + (i : Int) < 81 := by omega
   have q3 : ((at_ : Int) + (i : Int)).toNat = at_ + i := by omega
   have q6 : (0 : Int) ≤ (i : Int) := by omega
   have q7 : (i : Int) < 81 := by omega
   have n1 : ¬ gu = gv := hW.out.ne
   have n2 : ¬ gv = gu := fun e => n1 e.symm
   clear hy hz hp hm hq hI hW hNx
   go_wp2_with fail
   go_region_law (first | (go_simp; go_at_call 187; refine (HA.out _).mono ?_; rintro e w' ⟨rfl, rfl⟩))
   all_goals (
    clear q0
    go_wp2
    go_roundw
    case rel => exact ⟨i + 1, q, Q.set (at_ + i) p, by omega, hq1, by go_num, rfl, HN, HW3⟩
    case measure => simp [intOf]; omega)
  ·obtain rfl : i = n := by omega
   have hlt' : ¬ (i : Int) < (i : Int) := by omega
   obtain ⟨n1, _⟩ := hW.out.v.cnt
   obtain ⟨z1, f1⟩ := hW.out.u.cell (k := at_ + i) (by omega)
   have bz := W.getD_lt hI.out.1 (at_ + i)
   obtain ⟨z, hz⟩ : ∃ z, Q.getD (at_ + i) 0 = z := ⟨_, rfl⟩
   obtain ⟨m, hm⟩ : ∃ m, z + c = m := ⟨_, rfl⟩
   have hNx := hI.out.next (n := m) (by rw [hW.out.u.len]; omega) (by rw [hz, HZ.out i (Nat.le_refl _)]; omega)
   rw [hz] at z1 bz
   obtain ⟨p, hp⟩ : ∃ p, m % 4294967296 = p := ⟨_, rfl⟩
   rw [hp] at hNx
   have HW3 := Lib.hid ((hW.out.drewN 1).set (k := at_ + i) p (by omega))
   have R0 : BackPost gu gv cu i v (fun R => ∃ c, W.D.AB U v at_ (i + 1) c R) w (Ending.returned (.tuple #[])) ((wr.drewN 1).setCell ⟨gu, at_ + i, none⟩ (.int .u32 (p : Int))) := ⟨Q.set (at_ + i) p, ⟨_, hNx⟩, rfl, HW3.out⟩
   have R := Lib.hid R0
   obtain ⟨top, htop⟩ : ∃ top, at_ + i = top := ⟨_, rfl⟩
   rw [htop] at z1 f1 R
   have q0 : IntKind.i64.wrap ((at_ : Int) + (i : Int)) = (top : Int) := by rw [IntWalk.i64_in _ (by omega)]; omega
   have q1 : (0 : Int) ≤ (top : Int) := by omega
   have q2 : (top : Int) < 81 := by omega
   have u1 : IntKind.u32.wrap ((z : Int) + (c : Int)) = (p : Int) := by rw [IntKind.wrap_u32]; omega
   clear hz hp hm hI hW hNx htop R0 HW3
   go_wp2_with fail
   go_still_tail 16, (by kernel_rfl)
   change wpList _ _ _ _ _ wr.drew
   change Hid (BackPost gu gv cu i v _ w _ (wr.drew.setCell _ _)) at R
   change wr.drew.cell? _ = _ at z1
   change wr.drew.frozen? _ = _ at f1
   clear q0 n1 u1
   generalize wr.drew = wr at *
   go_wp2
   go_end0
   exact R.out
end Go.Proofs.YtdajgcgliidjbaaGreat
namespace Go.Proofs.YtdajgcgliidjbaaGreat
open Go.RowKit
theorem Two.same {w w' : World} {gu gv cu n : Nat} {U v : List Nat} (h : Two w w gu gv U cu v n) (s : Same w w') : Two w w' gu gv U cu v n :=
 ⟨h.u.other (by rw [s.heap]), h.v.other (by rw [s.heap]), h.ne, ⟨s.os, s.tape, s.output, by rw [s.heap]; exact Nat.le_refl _, fun i _ _ => by rw [s.heap]⟩⟩
theorem Two.trans {w w1 w2 : World} {gu gv cu n : Nat} {U v Q : List Nat} (h : Two w w1 gu gv U cu v n) (k : Two w1 w2 gu gv Q cu v n) : Two w w2 gu gv Q cu v n :=
 ⟨k.u, k.v, k.ne, ⟨k.g.os.trans h.g.os, k.g.tape.trans h.g.tape, k.g.output.trans h.g.output, Nat.le_trans h.g.size k.g.size, fun i hi hr => (k.g.block i (Nat.lt_of_lt_of_le hi h.g.size) hr).trans (h.g.block i hi hr)⟩⟩
theorem Two.start {w w' : World} {gu gv cu n : Nat} {U v : List Nat} (h : Two w w' gu gv U cu v n) : Two w' w' gu gv U cu v n := Two.refl h.u h.v h.ne
def OutPost (gu gv cu n at_ : Nat) (U v : List Nat) (w : World) (e : Ending) (w' : World) : Prop :=
 ∃ R g, g < 4294967296 ∧ W.D.Left1 U v at_ g R ∧ e = .returned (.int .u32 (g : Int)) ∧ Two w w' gu gv R cu v n
theorem takeOut_any (gu gv cu n at_ u0 m : Nat) (U v q : List Nat) (w : World) (hT : Two w w gu gv U cu v n) (d : W.D.Dvr v n) (r : W.D.DivRel u0 v n (at_ + 1) m U q) (hat : at_ + n < 81) :
  Calls Tryz.prog 197 #[.pointer (some ⟨gu, 0, none⟩), .pointer (some ⟨gv, 0, none⟩), .int .i64 (at_ : Int)] w (OutPost gu gv cu n at_ U v w) := by
 have HG := Lib.hid (guessLimb_any gu gv cu n at_ _ _ _ U v w hT.u hT.v d.two hat (W.D.top_of d r) r.lU)
 have HT := Lib.hid hT
 have HD := Lib.hid d
 have HR := Lib.hid r
 clear hT d r
 go_enter Tryz.func197, Tryz.ntmps197
 go_wp2_with fail
 refine HG.out.mono ?_
 rintro e w1 ⟨g, hg, g1, g2, rfl, hS⟩
 have T1 := HT.out.same hS
 have HT1 := Lib.hid T1
 have HTk := Lib.hid (takeTimes_any gu gv cu n at_ g U v w1 T1.start HR.out.lU HD.out.lv HD.out.zv hat hg)
 have G1 := Lib.hid g1
 have G2 := Lib.hid g2
 clear HG hS T1 HT g1 g2
 go_wp2_with fail
 refine HTk.out.mono ?_
 rintro e w2 ⟨Q, br, hM, hbr, rfl, T2⟩
 have HT2 := Lib.hid (HT1.out.trans T2)
 have HM := Lib.hid hM
 clear HTk HT1 hM
 by_cases h0 : br = 0
 ·subst h0
  have hq : ((((0 : Nat) : Int)) != 0) = false := rfl
  have HL := Lib.hid (W.D.step_right HD.out HR.out HM.out G1.out)
  clear T2
  go_wp2
  go_ret
  exact ⟨Q, g, hg, HL.out.2, rfl, HT2.out⟩
 ·have hq : ((br : Int) != 0) = true := by simpa using h0
  have HB := Lib.hid (addBack_any gu gv cu n at_ Q v w2 T2.start HM.out.1 HD.out.lv HD.out.zv hat)
  have hb0 : 0 < br := by omega
  have hge : 1 ≤ g := by
   have a := HM.out.2.2.2.1
   omega
  obtain ⟨g', hg'⟩ : ∃ g', g - 1 = g' := ⟨_, rfl⟩
  have w1' : IntKind.u32.wrap ((g : Int) - 1) = (g' : Int) := by rw [IntKind.wrap_u32]; omega
  have w2' : ((g : Int) - 1) % 4294967296 = (g' : Int) := by omega
  have HG' := Lib.hid hg'
  clear T2 h0 hg'
  go_wp2_with fail
  refine HB.out.mono ?_
  rintro e w3 ⟨R, ⟨c, hA⟩, rfl, T3⟩
  have HT3 := Lib.hid (HT2.out.trans T3)
  have HL := Lib.hid (W.D.step_back HD.out HR.out HM.out hb0 G2.out hA)
  clear T3 hA HB
  go_wp2
  go_ret
  exact ⟨R, g', by have := HG'.out; omega, by rw [← HG'.out]; exact HL.out.2, rfl, HT3.out⟩
end Go.Proofs.YtdajgcgliidjbaaGreat
namespace Go.Proofs.YtdajgcgliidjbaaGreat
open Go.RowKit
theorem yields_pure {P : Program} {ops : Array Oper} {S : World → Prop} {o : Oper} {v : Value} {a : Act} (hgd : o.guard = none) (h : ∀ w, (execOp a.eval o).run P w = .ok (.value v) w) : YieldsIf P ops S o v a :=
 .inl ⟨by simp only [Region.wanted, hgd], fun w _ => h w⟩
theorem Tryz.builtRow : Tryz.prog.built 100 [] = some (rowC Z81 0) := by kernel_rfl
theorem yields_build {ops : Array Oper} {S : World → Prop} {o : Oper} {a : Act} (hgd : o.guard = none) (ho : o.op = .build 100 #[]) : YieldsIf Tryz.prog ops S o (.agg (rowC Z81 0)) a := by
 refine yields_pure hgd fun w => ?_
 unfold execOp
 simp only [ho]
 have e := run_build (P := Tryz.prog) w 100 #[] _ Tryz.builtRow
 simp [e]
theorem RV.lt_of_cnt {lx ly : List Nat} {cx cy : Nat} (vx : RV lx cx) (vy : RV ly cy) (h : cx < cy) : W.lV lx < W.lV ly := by
 have a := vx.lt
 rcases Nat.lt_or_ge (W.lV lx) (W.lV ly) with h1 | h1
 ·exact h1
 ·have := vy.cnt_le (k := cx) (Nat.lt_of_le_of_lt h1 a)
  omega
theorem zero_rv : RV Z81 0 := ⟨Z81_lim, fun k _ => Z81_getD k, .inl rfl⟩
theorem divRows_less (gx gy cx cy : Nat) (lx ly : List Nat) (w : World) (hx : RowI w gx lx cx) (hy : RowI w gy ly cy) (vx : RV lx cx) (vy : RV ly cy) (hcx : cx ≤ 80) (hlt : cx < cy) :
  Calls Tryz.prog 181 #[.pointer (some ⟨gx, 0, none⟩), .pointer (some ⟨gy, 0, none⟩)] w (DivAgg (W.lV lx) (W.lV ly) w) := by
 obtain ⟨Z, hZ⟩ : ∃ Z, rowC Z81 0 = Z := ⟨_, rfl⟩
 have hz := zero_row.1
 rw [hZ] at hz
 have HZ := Lib.hid hZ
 have HX := Lib.hid hx
 have HY := Lib.hid hy
 have HVX := Lib.hid vx
 have ltx := hx.lt
 have lty := hy.lt
 have HLT := Lib.hid (vx.lt_of_cnt vy hlt)
 have hlt' : (cx : Int) < (cy : Int) := by omega
 clear hZ hx hy vx vy
 go_enter Tryz.func181, Tryz.ntmps181
 go_wp2
 have HW := Work.start w HZ.out
 obtain ⟨x1, x2⟩ := (HX.out.below HW.b ltx).cnt
 obtain ⟨y1, y2⟩ := (HY.out.below HW.b lty).cnt
 have HW0 := Lib.hid HW
 clear HW hz HZ
 generalize (w.alloc (.cells Z 100)).alloc (.cells Z 100) = w0 at *
 go_quiet (fail)
 have HW1 := Lib.hid (HW0.out.drewN nq)
 clear HW0 x1 x2 y1 y2
 generalize w0.drewN nq = w1 at *
 go_wp2_with fail
 refine wp_region_held (S := fun w' => RowI w' gx lx cx) (by kernel_rfl) ?_
 change wpAnyH _ _ _ _ _ _ _ _ w1.drew
 have HW2 : Hid (Work w w1.drew Z81 0) := HW1.out.drewN 1
 clear HW1
 generalize w1.drew = w2 at *
 have HX2 := Lib.hid (HX.out.below HW2.out.b ltx)
 have hB := Lib.hid (below_setRow (below_setRow HW2.out.b (Nat.le_refl _) (rowC Z81 0)) (show w.heap.size ≤ w.heap.size + 1 by omega) (rowC lx cx))
 have HO1 := Lib.hid ((HW2.out.out.stored (c' := 0) Z81_len).storedApart (g' := w.heap.size + 1) (cs := rowC lx cx) (by omega))
 have HO2 := Lib.hid ((HW2.out.row.storedApart (g' := w.heap.size) (cs := rowC Z81 0) (by omega)).stored (c' := cx) HX.out.len)
 refine wpAnyH_take (i := 0) (v := .agg (rowC Z81 0)) rfl (by kernel_rfl) (by kernel_rfl) (by kernel_rfl) (fun _ _ _ h => h) (yields_build rfl rfl) HX2.out ?_
 refine wpAnyH_take (i := 1) (v := .pointer (some ⟨gx, 0, none⟩)) rfl (by kernel_rfl) (by kernel_rfl) (by kernel_rfl) (fun _ _ _ h => h) (yields_pure rfl fun _ => rfl) HX2.out ?_
 refine wpAnyH_take (i := 2) (v := .pointer (some ⟨gx, 0, none⟩)) rfl (by kernel_rfl) (by kernel_rfl) (by kernel_rfl) (fun _ _ _ h => h) (yields_pure rfl fun _ => rfl) HX2.out ?_
 refine wpAnyH_take (i := 3) (v := .agg (rowC lx cx)) rfl (by kernel_rfl) (by kernel_rfl) (by kernel_rfl) (fun _ _ _ h => h) (yields_load rfl (.tmp 22) rfl gx lx cx rfl fun _ h => h) HX2.out ?_
 refine wpAnyH_all (rs := [4]) (by kernel_rfl) (by decide) ?_
 intro i hi
 obtain rfl : i = 4 := by simpa using hi
 refine store_op rfl rfl (.tmp 4) (.tmp 20) rfl w.heap.size Z81 Z81 0 0 rfl rfl HW2.out.out Z81_len ⟨HX2.out.storedApart (by omega), ?_⟩
 refine wpAnyH_all (rs := [5]) (by kernel_rfl) (by decide) ?_
 intro i hi
 obtain rfl : i = 5 := by simpa using hi
 refine store_op rfl rfl (.tmp 5) (.tmp 23) rfl (w.heap.size + 1) Z81 lx 0 cx rfl rfl (HW2.out.row.storedApart (by omega)) HX.out.len ⟨(HX2.out.storedApart (by omega)).storedApart (by omega), ?_⟩
 refine wpAnyH_done (by kernel_rfl) ?_ _
 go_wp2
 exact bodyPost_ret (results_two Tryz.results181 _ HO1.out HO2.out rfl rfl) rfl ⟨Z81, 0, lx, cx, rfl, Z81_len, HX.out.len, zero_rv, HVX.out, by rw [Z81_val, Nat.div_eq_of_lt HLT.out], by rw [Nat.mod_eq_of_lt HLT.out], by omega, by omega, hB.out⟩
theorem RV.one {l : List Nat} (h : RV l 1) : W.lV l = l.getD 0 0 ∧ 0 < l.getD 0 0 := by
 have e := W.lV_take_all (l := l) (m := 1) h.zero
 rw [W.lV_take_succ, List.take_zero] at e
 refine ⟨by rw [← e]; simp [W.lV], ?_⟩
 rcases h.top with h | h
 ·omega
 ·exact h
theorem divRows_one (gx gy cx : Nat) (lx ly : List Nat) (w : World) (hx : RowI w gx lx cx) (hy : RowI w gy ly 1) (vx : RV lx cx) (vy : RV ly 1) (hcx : cx ≤ 80) (hge : 1 ≤ cx) :
  Calls Tryz.prog 181 #[.pointer (some ⟨gx, 0, none⟩), .pointer (some ⟨gy, 0, none⟩)] w (DivAgg (W.lV lx) (W.lV ly) w) := by
 obtain ⟨Z, hZ⟩ : ∃ Z, rowC Z81 0 = Z := ⟨_, rfl⟩
 have hz := zero_row.1
 rw [hZ] at hz
 have HZ := Lib.hid hZ
 have HX := Lib.hid hx
 have HY := Lib.hid hy
 have HVX := Lib.hid vx
 have ltx := hx.lt
 have lty := hy.lt
 have hd := W.getD_lt vy.lim 0
 have hone := vy.one
 rw [hone.1]
 obtain ⟨d, hdd⟩ : ∃ d, ly.getD 0 0 = d := ⟨_, rfl⟩
 have HDD := Lib.hid hdd
 rw [hdd] at hd hone ⊢
 have hd0 := hone.2
 have hlt' : ¬ (cx : Int) < ((1 : Nat) : Int) := by omega
 have hlt2 : ¬ (cx : Int) < 1 := by omega
 have h11 : ((((1 : Nat) : Int)) == 1) = true := rfl
 clear hZ hx hy vx vy hone hdd
 go_enter Tryz.func181, Tryz.ntmps181
 go_wp2
 have HW := Work.start w HZ.out
 obtain ⟨x1, x2⟩ := (HX.out.below HW.b ltx).cnt
 obtain ⟨y1, y2⟩ := (HY.out.below HW.b lty).cnt
 have HW0 := Lib.hid HW
 clear HW hz HZ
 generalize (w.alloc (.cells Z 100)).alloc (.cells Z 100) = w0 at *
 go_quiet (fail)
 have HW1 := Lib.hid (HW0.out.drewN nq)
 clear HW0 x1 x2 y1 y2
 generalize w0.drewN nq = w1 at *
 obtain ⟨y1, y2⟩ := (HY.out.below HW1.out.b lty).cnt
 obtain ⟨d1, d2⟩ := (HY.out.below HW1.out.b lty).cell (k := 0) (by omega)
 rw [HDD.out] at d1
 have HD := Lib.hid (divByLimb_any gx cx d lx w1 (HX.out.below HW1.out.b ltx) HVX.out hcx hd0 hd)
 go_wp2_with fail
 refine HD.out.mono ?_
 rintro e w2 ⟨lq, cq, lr, cr, rfl, h1, h2, h3, h4, h5, h6, h7, h8, h9⟩
 have o1 := HW1.out.out.below h9 HW1.out.out.lt
 have o2 := HW1.out.row.below h9 HW1.out.row.lt
 have bb : Below w.heap.size w w2 := HW1.out.b.trans (h9.mono HW1.out.b.size)
 have HO1 := Lib.hid ((o1.stored (c' := cq) h1).storedApart (g' := w.heap.size + 1) (cs := rowC lr cr) (by omega))
 have HO2 := Lib.hid ((o2.storedApart (g' := w.heap.size) (cs := rowC lq cq) (by omega)).stored (c' := cr) h2)
 have HB := Lib.hid (below_setRow (below_setRow bb (Nat.le_refl _) (rowC lq cq)) (show w.heap.size ≤ w.heap.size + 1 by omega) (rowC lr cr))
 have P1 := Lib.hid o1
 have P2 := Lib.hid o2
 have Q1 := Lib.hid h1
 have Q2 := Lib.hid h2
 have R := Lib.hid (And.intro h3 (And.intro h4 (And.intro h5 (And.intro h6 (And.intro h7 h8)))))
 clear o1 o2 bb h1 h2 h3 h4 h5 h6 h7 h8 h9 HD y1 y2 d1 d2
 go_wp2_with (first | refine store_at rfl (.tmp 4) (.tmp 36) rfl w.heap.size Z81 lq 0 cq rfl rfl P1.out Q1.out ?_ | refine store_at rfl (.tmp 5) (.tmp 37) rfl (w.heap.size + 1) Z81 lr 0 cr rfl rfl (P2.out.storedApart (by omega)) Q2.out ?_)
 exact bodyPost_ret (results_two Tryz.results181 _ HO1.out HO2.out rfl rfl) rfl ⟨lq, cq, lr, cr, rfl, Q1.out, Q2.out, R.out.1, R.out.2.1, R.out.2.2.1, R.out.2.2.2.1, R.out.2.2.2.2.1, R.out.2.2.2.2.2, HB.out⟩
end Go.Proofs.YtdajgcgliidjbaaGreat
namespace Go.Proofs.YtdajgcgliidjbaaGreat
open Go.RowKit
theorem norm_div {ly lv : List Nat} {n cv s : Nat} (vy : RV ly n) (h2 : 2 ≤ n) (hs : 32 - bitLen (ly.getD (n - 1) 0) = s) (vv : RV lv cv) (hv : W.lV lv = 2 ^ s * W.lV ly) : W.D.Dvr lv n ∧ cv = n := by
 obtain ⟨k, rfl⟩ : ∃ k, n = k + 1 := ⟨n - 1, by omega⟩
 rw [show k + 1 - 1 = k from rfl] at hs
 have ht : 0 < ly.getD k 0 := by rcases vy.top with h | h; omega; exact h
 have htl := W.getD_lt vy.lim k
 have htd := getD_div vy.lim vy.lt
 obtain ⟨t, htt⟩ : ∃ t, ly.getD k 0 = t := ⟨_, rfl⟩
 rw [htt] at hs ht htl htd
 obtain ⟨b1, b2, b3⟩ := bitLen_bounds ht
 have b4 := bitLen_32 htl
 obtain ⟨b, hb⟩ : ∃ b, bitLen t = b := ⟨_, rfl⟩
 rw [hb] at b1 b2 b3 b4 hs
 obtain ⟨p, hp⟩ : ∃ p, (4294967296 : Nat) ^ k = p := ⟨_, rfl⟩
 have hp0 : 0 < p := by rw [← hp]; exact Nat.pow_pos (by omega)
 have hpk : (4294967296 : Nat) ^ (k + 1) = p * 4294967296 := by rw [Nat.pow_succ, hp]
 rw [hp] at htd
 have hY1 : t * p ≤ W.lV ly := by rw [htd]; exact Nat.div_mul_le_self _ _
 have hY2 : W.lV ly < (t + 1) * p := by
  rw [htd]; have := Nat.div_add_mod (W.lV ly) p; have := Nat.mod_lt (W.lV ly) hp0; rw [Nat.add_mul, Nat.mul_comm (W.lV ly / p)]; omega
 have hps : 0 < 2 ^ s := Nat.pow_pos (by omega)
 have e32 : 2 ^ s * 2 ^ b = 4294967296 := by rw [← Nat.pow_add, show s + b = 32 from by omega]
 have e31 : 2 ^ s * 2 ^ (b - 1) = 2147483648 := by rw [← Nat.pow_add, show s + (b - 1) = 31 from by omega]
 have hV2 : W.lV lv < 4294967296 ^ (k + 1) := by
  rw [hv, hpk]
  have a1 : 2 ^ s * W.lV ly < 2 ^ s * ((t + 1) * p) := Nat.mul_lt_mul_of_pos_left hY2 hps
  have a2 : 2 ^ s * ((t + 1) * p) ≤ 2 ^ s * (2 ^ b * p) := Nat.mul_le_mul_left _ (Nat.mul_le_mul_right _ b2)
  rw [← Nat.mul_assoc (2 ^ s) (2 ^ b), e32, Nat.mul_comm 4294967296 p] at a2
  omega
 have hV1 : 2147483648 * p ≤ W.lV lv := by
  rw [hv]
  have a1 : 2 ^ s * (2 ^ (b - 1) * p) ≤ 2 ^ s * (t * p) := Nat.mul_le_mul_left _ (Nat.mul_le_mul_right _ b1)
  rw [← Nat.mul_assoc, e31] at a1
  exact Nat.le_trans a1 (Nat.mul_le_mul_left _ hY1)
 have hz : ∀ j, k + 1 ≤ j → lv.getD j 0 = 0 := fun j hj => W.high_zero vv.lim hV2 hj
 have htop : 2147483648 ≤ lv.getD k 0 := by
  rw [getD_div vv.lim hV2, hp, Nat.le_div_iff_mul_le hp0]; exact hV1
 refine ⟨⟨vv.lim, hz, h2, htop⟩, ?_⟩
 have c1 := vv.cnt_le hV2
 rcases Nat.lt_or_ge cv (k + 1) with h | h
 ·rw [vv.zero k (by omega)] at htop; omega
 ·omega
theorem many_start {lx ly lv U : List Nat} {n cx s : Nat} (vx : RV lx cx) (vy : RV ly n) (h2 : 2 ≤ n) (hcx : n ≤ cx) (hv : W.lV lv = 2 ^ s * W.lV ly) (hu : W.lV U = 2 ^ s * W.lV lx) (lU : W.Limbs U) (nU : U.length = 81) :
  W.D.DivRel (2 ^ s * W.lV lx) lv n (cx - n + 1) 81 U Z81 := by
 refine ⟨lU, Z81_lim, nU, Z81_len, by rw [Z81_val, hu]; simp, ?_, fun k _ => Z81_getD k⟩
 rw [hu, hv, Nat.mul_assoc]
 refine Nat.mul_lt_mul_of_pos_left ?_ (Nat.pow_pos (by omega))
 have a := vx.lt
 have b : 4294967296 ^ (n - 1) ≤ W.lV ly := by
  rcases Nat.lt_or_ge (W.lV ly) (4294967296 ^ (n - 1)) with h | h
  ·have := vy.cnt_le h; omega
  ·exact h
 have c := Nat.mul_le_mul_right (4294967296 ^ (cx - n + 1)) b
 rw [← Nat.pow_add, show n - 1 + (cx - n + 1) = cx from by omega] at c
 omega
theorem quo_lt {lx ly : List Nat} {n cx : Nat} (vx : RV lx cx) (vy : RV ly n) (h2 : 2 ≤ n) (hcx : n ≤ cx) : W.lV lx / W.lV ly < 4294967296 ^ (cx - n + 1) := by
 have a := vx.lt
 have b : 4294967296 ^ (n - 1) ≤ W.lV ly := by
  rcases Nat.lt_or_ge (W.lV ly) (4294967296 ^ (n - 1)) with h | h
  ·have := vy.cnt_le h; omega
  ·exact h
 have hp : 0 < 4294967296 ^ (n - 1) := Nat.pow_pos (by omega)
 rw [Nat.div_lt_iff_lt_mul (by omega)]
 have c := Nat.mul_le_mul_left (4294967296 ^ (cx - n + 1)) b
 rw [← Nat.pow_add, show cx - n + 1 + (n - 1) = cx from by omega] at c
 omega
structure DivSt (w wr : World) (g : Nat) (U : List Nat) (cu : Nat) (v : List Nat) (n : Nat) (q : List Nat) (cq : Nat) : Prop where
 o1 : RowI wr w.heap.size Z81 0
 o2 : RowI wr (w.heap.size + 1) Z81 0
 u : RowI wr g U cu
 v : RowI wr (g + 1) v n
 q : RowI wr (g + 2) q cq
 b : Below w.heap.size w wr
 ge : w.heap.size + 2 ≤ g
theorem DivSt.start {w w1 w3 : World} {Z : Array Value} (hZ : rowC Z81 0 = Z) {lu lv : List Nat} {cu cv : Nat} (hW : Work w w1 Z81 0) (hb : Below w1.heap.size w1 w3) (hu : lu.length = 81) (hv : lv.length = 81) :
  DivSt w (((((w3.alloc (.cells Z 100)).alloc (.cells Z 100)).setRow w3.heap.size (rowC lu cu)).setRow (w3.heap.size + 1) (rowC lv cv)).alloc (.cells Z 100)) w3.heap.size lu cu lv cv Z81 0 := by
 have V := Vars.of (cx := cu) (cy := cv) (Work.start w3 hZ) hu hv
 have O := one_var ((((w3.alloc (.cells Z 100)).alloc (.cells Z 100)).setRow w3.heap.size (rowC lu cu)).setRow (w3.heap.size + 1) (rowC lv cv)) hZ
 have hs : ((((w3.alloc (.cells Z 100)).alloc (.cells Z 100)).setRow w3.heap.size (rowC lu cu)).setRow (w3.heap.size + 1) (rowC lv cv)).heap.size = w3.heap.size + 2 := by simp
 rw [hs] at O
 generalize (((w3.alloc (.cells Z 100)).alloc (.cells Z 100)).setRow w3.heap.size (rowC lu cu)).setRow (w3.heap.size + 1) (rowC lv cv) = w5 at *
 have h13 := hb.size
 have a1 := hW.out.lt
 have a2 := hW.row.lt
 have p1 := (hW.out.below hb a1)
 have p2 := (hW.row.below hb a2)
 have q1 := p1.below V.b (by omega)
 have q2 := p2.below V.b (by omega)
 refine ⟨q1.below O.2 (by omega), q2.below O.2 (by omega), V.x.below O.2 (by omega), V.y.below O.2 (by omega), O.1, ?_, by omega⟩
 have b1 : Below w.heap.size w w3 := hW.b.trans (hb.mono hW.b.size)
 have b2 : Below w.heap.size w w5 := b1.trans (V.b.mono b1.size)
 exact b2.trans (O.2.mono (by omega))
theorem DivSt.drewN {w wr : World} {g cu n cq : Nat} {U v q : List Nat} (h : DivSt w wr g U cu v n q cq) (k : Nat) : DivSt w (wr.drewN k) g U cu v n q cq :=
 ⟨h.o1.other rfl, h.o2.other rfl, h.u.other rfl, h.v.other rfl, h.q.other rfl, bdN h.b k, h.ge⟩
theorem DivSt.two {w wr : World} {g cu n cq : Nat} {U v q : List Nat} (h : DivSt w wr g U cu v n q cq) : Two wr wr g (g + 1) U cu v n := Two.refl h.u h.v (by omega)
theorem DivSt.take {w wr w' : World} {g cu n cq : Nat} {U v q R : List Nat} (h : DivSt w wr g U cu v n q cq) (t : Two wr w' g (g + 1) R cu v n) : DivSt w w' g R cu v n q cq := by
 have hge := h.ge
 have ne : ∀ k, k < wr.heap.size → k ≠ g → w'.heap[k]? = wr.heap[k]? := fun k hk hne => t.g.block k hk (fun e => hne (by injection e))
 exact ⟨h.o1.other (ne _ h.o1.lt (by omega)), h.o2.other (ne _ h.o2.lt (by omega)), t.u, t.v, h.q.other (ne _ h.q.lt (by omega)), h.b.grown t.g h.b.size (fun k hk => by injection hk; omega), hge⟩
theorem DivSt.setQ {w wr : World} {g cu n cq k : Nat} {U v q : List Nat} (h : DivSt w wr g U cu v n q cq) (y : Nat) (hk : k < 81) : DivSt w (wr.setCell ⟨g + 2, k, none⟩ (.int .u32 (y : Int))) g U cu v n (q.set k y) cq := by
 have hge := h.ge
 exact ⟨h.o1.apart (by omega), h.o2.apart (by omega), h.u.apart (by omega), h.v.apart (by omega), h.q.set y hk, h.b.setCell (p := ⟨g + 2, k, none⟩) (by simp; omega) _, hge⟩
theorem DivSt.cntQ {w wr : World} {g cu n cq : Nat} {U v q : List Nat} (h : DivSt w wr g U cu v n q cq) (y : Nat) : DivSt w (wr.setCell ⟨g + 2, 81, none⟩ (.int .i64 (y : Int))) g U cu v n q y := by
 have hge := h.ge
 exact ⟨h.o1.apart (by omega), h.o2.apart (by omega), h.u.apart (by omega), h.v.apart (by omega), h.q.setC y, h.b.setCell (p := ⟨g + 2, 81, none⟩) (by simp; omega) _, hge⟩
theorem DivSt.cntU {w wr : World} {g cu n cq : Nat} {U v q : List Nat} (h : DivSt w wr g U cu v n q cq) (y : Nat) : DivSt w (wr.setCell ⟨g, 81, none⟩ (.int .i64 (y : Int))) g U y v n q cq := by
 have hge := h.ge
 exact ⟨h.o1.apart (by omega), h.o2.apart (by omega), h.u.setC y, h.v.apart (by omega), h.q.apart (by omega), h.b.setCell (p := ⟨g, 81, none⟩) (by simp; omega) _, hge⟩
theorem divRows_many (gx gy cx n : Nat) (lx ly : List Nat) (w : World) (hx : RowI w gx lx cx) (hy : RowI w gy ly n) (vx : RV lx cx) (vy : RV ly n) (hcx : cx ≤ 80) (h2 : 2 ≤ n) (hge : n ≤ cx) :
  Calls Tryz.prog 181 #[.pointer (some ⟨gx, 0, none⟩), .pointer (some ⟨gy, 0, none⟩)] w (DivAgg (W.lV lx) (W.lV ly) w) := by
 obtain ⟨Z, hZ⟩ : ∃ Z, rowC Z81 0 = Z := ⟨_, rfl⟩
 have hz := zero_row.1
 rw [hZ] at hz
 have HZ := Lib.hid hZ
 have HX := Lib.hid hx
 have HY := Lib.hid hy
 have HVX := Lib.hid vx
 have HVY := Lib.hid vy
 have ltx := hx.lt
 have lty := hy.lt
 have hlt' : ¬ (cx : Int) < (n : Int) := by omega
 have h11 : ((n : Int) == 1) = false := by simp; omega
 clear hZ hx hy vx vy
 go_enter Tryz.func181, Tryz.ntmps181
 go_wp2
 have HW := Work.start w HZ.out
 obtain ⟨x1, x2⟩ := (HX.out.below HW.b ltx).cnt
 obtain ⟨y1, y2⟩ := (HY.out.below HW.b lty).cnt
 have HW0 := Lib.hid HW
 clear HW
 generalize (w.alloc (.cells Z 100)).alloc (.cells Z 100) = w0 at *
 go_quiet (fail)
 have HW1 := Lib.hid (HW0.out.drewN nq)
 clear HW0 x1 x2 y1 y2
 generalize w0.drewN nq = w1 at *
 obtain ⟨y1, y2⟩ := (HY.out.below HW1.out.b lty).cnt
 obtain ⟨n1, hn1⟩ : ∃ j, n - 1 = j := ⟨_, rfl⟩
 obtain ⟨t1, _⟩ := (HY.out.below HW1.out.b lty).cell (k := n1) (by omega)
 have ht := W.getD_lt HVY.out.lim n1
 obtain ⟨t, htt⟩ : ∃ t, ly.getD n1 0 = t := ⟨_, rfl⟩
 rw [htt] at t1 ht
 have HLZ := Lib.hid (lead32_any t ht)
 obtain ⟨s, hs⟩ : ∃ s, 32 - bitLen t = s := ⟨_, rfl⟩
 rw [hs] at HLZ
 have hs31 : s ≤ 31 := by
  have : 0 < t := by
   have h := HVY.out.top
   rw [hn1, htt] at h
   rcases h with h | h
   ·omega
   ·exact h
  have := (bitLen_bounds this).2.2
  omega
 have HS : Hid (32 - bitLen (ly.getD (n - 1) 0) = s) := by show _ = _; rw [hn1, htt]; exact hs
 have p1 : IntKind.i64.wrap ((n : Int) - 1) = (n1 : Int) := by rw [IntWalk.i64_in _ (by omega)]; omega
 have p2 : (n1 : Int) < 81 := by omega
 have p3 : (0 : Int) ≤ (n1 : Int) := by omega
 clear hs htt hn1
 go_wp2_with fail
 go_quiet ((go_at_call 195; exact Calls.quiet_of_same (still_of (HLZ.out _))))
 have HW2 := Lib.hid (HW1.out.drewN nq)
 clear HW1 y1 y2 t1 p1 p2 p3 HLZ
 generalize w1.drewN nq = w2 at *
 have HUp := Lib.hid (shiftedUp_any gx cx s lx w2 (HX.out.below HW2.out.b ltx) HVX.out (by omega) hs31)
 go_wp2_with fail
 refine HUp.out.mono ?_
 rintro e w3 ⟨U, cu, rfl, hUl, vU, ⟨eU, cU⟩, b3⟩
 have b23 : Below w.heap.size w w3 := HW2.out.b.trans (b3.mono HW2.out.b.size)
 have HVp := Lib.hid (shiftedUp_any gy n s ly w3 (HY.out.below b23 lty) HVY.out (by omega) hs31)
 go_wp2_with fail
 refine HVp.out.mono ?_
 rintro e w4 ⟨lv, cv, rfl, hvl, vv, ⟨ev, cV⟩, b4⟩
 obtain ⟨hD, hcv⟩ := norm_div HVY.out h2 HS.out vv ev
 obtain rfl : n = cv := hcv.symm
 have b24 : Below w2.heap.size w2 w4 := b3.trans (b4.mono b3.size)
 have HDv := Lib.hid hD
 have HMS := Lib.hid (many_start HVX.out HVY.out h2 hge ev eU vU.lim hUl)
 have HSt := Lib.hid (DivSt.start (cu := cu) (cv := n) HZ.out HW2.out b24 hUl hvl)
 have HWs := Lib.hid (Work.start w4 HZ.out)
 have HUl := Lib.hid hUl
 have Hvl := Lib.hid hvl
 have HEv := Lib.hid ev
 clear hUl vU eU b3 hvl vv b4 hD b24 b23 ev HUp HVp HW2
 go_wp2_with (first | refine store_at rfl (.tmp 7) (.tmp 51) rfl w4.heap.size Z81 U 0 cu rfl rfl HWs.out.out HUl.out ?_ | refine store_at rfl (.tmp 8) (.tmp 54) rfl (w4.heap.size + 1) Z81 lv 0 n rfl rfl (HWs.out.row.storedApart (by omega)) Hvl.out ?_)
 clear HWs hz HZ HUl Hvl
 obtain ⟨g, hg⟩ : ∃ g, w4.heap.size = g := ⟨_, rfl⟩
 rw [hg] at HSt ⊢
 clear hg
 generalize World.alloc _ _ = w5 at *
 obtain ⟨x1, x2⟩ := (HX.out.below HSt.out.b ltx).cnt
 obtain ⟨y1, y2⟩ := (HY.out.below HSt.out.b lty).cnt
 obtain ⟨K, hK⟩ : ∃ K, cx - n + 1 = K := ⟨_, rfl⟩
 have p1 : IntKind.i64.wrap ((cx : Int) - (n : Int)) = (cx : Int) - (n : Int) := IntWalk.i64_in _ (by omega)
 go_quiet (fail)
 have HSt2 := Lib.hid (HSt.out.drewN nq)
 clear HSt x1 x2 y1 y2 p1
 generalize w5.drewN nq = w6 at *
 rw [hK] at HMS
 have hK78 : K + n ≤ 81 := by omega
 have e0 : (cx : Int) - (n : Int) = (K : Int) - 1 := by omega
 rw [e0]
 go_wp2
 clear e0
 go_loopw [10] (fun iv wr => ∃ (k : Nat) (U' q : List Nat), k ≤ K ∧ iv = .int .i64 ((k : Int) - 1) ∧ Hid (W.D.DivRel (2 ^ s * W.lV lx) lv n k 81 U' q) ∧ Hid (DivSt w wr g U' cu lv n q 0)) (fun iv _ => (intOf iv + 1).toNat)
 case atStart => exact ⟨K, U, Z81, Nat.le_refl _, rfl, HMS, HSt2⟩
 case round =>
  clear HSt2 HMS
  obtain ⟨k, U', q, hk, rfl, hI, hW⟩ := hrel
  by_cases h0 : 0 < k
  ·obtain ⟨j, rfl⟩ : ∃ j, k = j + 1 := ⟨k - 1, by omega⟩
   have hji : (((j + 1 : Nat) : Int) - 1) = (j : Int) := by omega
   rw [hji]
   have hj0 : (0 : Int) ≤ (j : Int) := by omega
   have hj81 : (j : Int) < 81 := by omega
   have HT := Lib.hid (takeOut_any g (g + 1) cu n j _ 81 U' lv q wr hW.out.two HDv.out hI.out (by omega))
   clear hji
   go_wp2_with fail
   refine HT.out.mono ?_
   rintro e w7 ⟨R, gg, hgg, hL, rfl, t2⟩
   have S1 := hW.out.take t2
   obtain ⟨q1, fq⟩ := S1.q.cell (k := j) (by omega)
   generalize q.getD j 0 = z at *
   have HS2 := Lib.hid (S1.setQ (k := j) gg (by omega))
   have HN := Lib.hid (hI.out.next (by omega) hL hgg)
   clear HT hL t2 S1 hI hW
   go_wp2
   go_roundw
   case rel => exact ⟨j, R, q.set j gg, by omega, by go_num, HN, HS2⟩
   case measure => simp [intOf]
  ·obtain rfl : k = 0 := by omega
   have hneg : ¬ (0 : Int) ≤ ((0 : Nat) : Int) - 1 := by omega
   obtain ⟨D1, D2⟩ := hI.out.done
   rw [HEv.out, Nat.mul_div_mul_left _ _ (Nat.pow_pos (by omega))] at D1
   rw [HEv.out, Nat.mul_mod_mul_left] at D2
   have hqlt := quo_lt HVX.out HVY.out h2 hge
   rw [hK] at hqlt
   have zq : ∀ i, K ≤ i → q.getD i 0 = 0 := fun i hi => W.high_zero hI.out.lq (by rw [D1]; exact hqlt) hi
   have zu : ∀ i, n ≤ i → U'.getD i 0 = 0 := fun i hi => by
    have hu := hI.out.lt
    rw [Nat.pow_zero, Nat.mul_one] at hu
    exact W.high_zero hI.out.lU (Nat.lt_trans hu HDv.out.lt) hi
   have HRq := Lib.hid (fun k (h : CountRel q K k) => And.intro (h.right hI.out.lq zq) h.le)
   have HRu := Lib.hid (fun k (h : CountRel U' n k) => And.intro (h.right hI.out.lU zu) h.le)
   have HD1 := Lib.hid D1
   have HD2 := Lib.hid D2
   have HLq := Lib.hid hI.out.nq
   obtain ⟨x1, x2⟩ := (HX.out.below hW.out.b ltx).cnt
   obtain ⟨y1, y2⟩ := (HY.out.below hW.out.b lty).cnt
   have HS1 : Hid (DivSt w wr.drew g U' cu lv n q 0) := hW.out.drewN 1
   have p1 : IntKind.i64.wrap ((cx : Int) - (n : Int)) = (cx : Int) - (n : Int) := IntWalk.i64_in _ (by omega)
   have p2 : IntKind.i64.wrap ((cx : Int) - (n : Int) + 1) = (K : Int) := by rw [IntWalk.i64_in _ (by omega)]; omega
   have HC := Lib.hid (countBelow_any (g + 2) 0 K q _ HS1.out.q (by omega))
   clear D1 D2 hqlt zq zu hI hW
   go_wp2_with fail
   go_still_tail 10, (by kernel_rfl)
   change wpList _ _ _ _ _ wr.drew
   clear x1 x2 y1 y2 p1 p2
   generalize wr.drew = wr at *
   go_wp2_with fail
   refine HC.out.mono ?_
   rintro e w1' ⟨cq, hcq, rfl, rfl⟩
   have S2 := HS1.out.cntQ cq
   have HVq := Lib.hid (HRq.out cq hcq)
   clear HC HRq hcq HS1
   generalize wr.setCell ⟨g + 2, 81, none⟩ (.int .i64 (cq : Int)) = w7 at *
   obtain ⟨y1, y2⟩ := (HY.out.below S2.b lty).cnt
   have HC2 := Lib.hid (countBelow_any g cu n U' _ S2.u (by omega))
   have HS2 := Lib.hid S2
   clear S2
   go_wp2_with fail
   refine HC2.out.mono ?_
   rintro e w1' ⟨cr, hcr, rfl, rfl⟩
   have S3 := HS2.out.cntU cr
   have HVr := Lib.hid (HRu.out cr hcr)
   clear HC2 HRu hcr HS2 y1 y2
   generalize w7.setCell ⟨g, 81, none⟩ (.int .i64 (cr : Int)) = w8 at *
   have HS4 : Hid (DivSt w w8.drew g U' cr lv n q cq) := S3.drewN 1
   clear S3
   go_wp2_with fail
   refine wp_region_held (S := fun w' => RowI w' (g + 2) q cq) (by kernel_rfl) ?_
   change wpAnyH _ _ _ _ _ _ _ _ w8.drew
   generalize w8.drew = w9 at *
   have hge2 := HS4.out.ge
   have hu79 : cr ≤ 80 := by have := HVr.out.2; omega
   have HDn := Lib.hid (shiftedDown_any g cr s U' w9 HS4.out.u HVr.out.1 hu79 hs31)
   refine wpAnyH_take (i := 0) (v := .agg (rowC q cq)) rfl (by kernel_rfl) (by kernel_rfl) (by kernel_rfl) (fun _ _ _ h => h) (yields_load rfl (.tmp 9) rfl (g + 2) q cq rfl fun _ h => h) HS4.out.q ?_
   refine wpAnyH_take (i := 1) (v := .int .i64 (s : Int)) rfl (by kernel_rfl) (by kernel_rfl) (by kernel_rfl) (fun _ _ _ h => h) (yields_pure rfl fun _ => rfl) HS4.out.q ?_
   refine wpAnyH_all (rs := [2]) (by kernel_rfl) (by decide) ?_
   intro i hi
   obtain rfl : i = 2 := by simpa using hi
   unfold wpOp
   go_simp
   left
   refine HDn.out.mono ?_
   rintro e w10 ⟨lr, cr2, rfl, hlr, vr, ⟨er, cle⟩, b10⟩
   have T1 := HS4.out.q.below b10 HS4.out.q.lt
   have P1 := HS4.out.o1.below b10 HS4.out.o1.lt
   have P2 := HS4.out.o2.below b10 HS4.out.o2.lt
   have bb : Below w.heap.size w w10 := HS4.out.b.trans (b10.mono HS4.out.b.size)
   have HO1 := Lib.hid ((P1.stored (c' := cq) HLq.out).storedApart (g' := w.heap.size + 1) (cs := rowC lr cr2) (by omega))
   have HO2 := Lib.hid ((P2.storedApart (g' := w.heap.size) (cs := rowC q cq) (by omega)).stored (c' := cr2) hlr)
   have HB := Lib.hid (below_setRow (below_setRow bb (Nat.le_refl _) (rowC q cq)) (show w.heap.size ≤ w.heap.size + 1 by omega) (rowC lr cr2))
   have hrv : W.lV lr = W.lV lx % W.lV ly := by rw [er, HD2.out, Nat.mul_div_cancel_left _ (Nat.pow_pos (by omega))]
   refine ⟨T1, ?_⟩
   refine wpAnyH_all (rs := [3]) (by kernel_rfl) (by decide) ?_
   intro i hi
   obtain rfl : i = 3 := by simpa using hi
   refine store_op rfl rfl (.tmp 4) (.tmp 89) rfl w.heap.size Z81 q 0 cq rfl rfl P1 HLq.out ⟨T1.storedApart (by omega), ?_⟩
   refine wpAnyH_all (rs := [4]) (by kernel_rfl) (by decide) ?_
   intro i hi
   obtain rfl : i = 4 := by simpa using hi
   refine store_op rfl rfl (.tmp 5) (.tmp 91) rfl (w.heap.size + 1) Z81 lr 0 cr2 rfl rfl (P2.storedApart (by omega)) hlr ⟨(T1.storedApart (by omega)).storedApart (by omega), ?_⟩
   refine wpAnyH_done (by kernel_rfl) ?_ _
   have HF := Lib.hid (And.intro hlr (And.intro vr hrv))
   clear T1 P1 P2 bb hlr vr er b10 hrv HDn HS4
   go_wp2
   exact bodyPost_ret (results_two Tryz.results181 _ HO1.out HO2.out rfl rfl) rfl ⟨q, cq, lr, cr2, rfl, HLq.out, HF.out.1, HVq.out.1, HF.out.2.1, HD1.out, HF.out.2.2, by have := HVq.out.2; omega, by omega, HB.out⟩
theorem divRows_any (gx gy cx cy : Nat) (lx ly : List Nat) (w : World) (hx : RowI w gx lx cx) (hy : RowI w gy ly cy) (vx : RV lx cx) (vy : RV ly cy) (hcx : cx ≤ 80) (h0 : 0 < W.lV ly) :
  Calls Tryz.prog 181 #[.pointer (some ⟨gx, 0, none⟩), .pointer (some ⟨gy, 0, none⟩)] w (DivAgg (W.lV lx) (W.lV ly) w) := by
 rcases Nat.lt_or_ge cx cy with h | h
 ·exact divRows_less gx gy cx cy lx ly w hx hy vx vy (by omega) h
 ·have hc0 : cy ≠ 0 := fun e => by subst e; rw [vy.zeroVal] at h0; omega
  by_cases h1 : cy = 1
  ·subst h1; exact divRows_one gx gy cx lx ly w hx hy vx vy (by omega) h
  ·exact divRows_many gx gy cx cy lx ly w hx hy vx vy hcx (by omega) h
end Go.Proofs.YtdajgcgliidjbaaGreat

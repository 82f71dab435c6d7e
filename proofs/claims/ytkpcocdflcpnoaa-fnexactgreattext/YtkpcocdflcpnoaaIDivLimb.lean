/-
  Whole rows in a region that draws its order; two rows handed back; the contract of impl's divByLimb.
-/
import Derived.Test.YtkpcocdflcpnoaaIMul
import Derived.Test.YtkpcocdflcpnoaaIVars
import Derived.Deep.RegionLaw
namespace Go.Proofs.Ytkpcocdflcpnoaa
open Go.RowKit
attribute [local go_sem ↓] Go.wp_at_zero Go.wp_at_succ

/-- A whole row that every world at hand holds may be loaded first. -/
theorem yields_load {ops : Array Oper} {S : World → Prop} {o : Oper} {a : Act} (hgd : o.guard = none) (x : Operand) (ho : o.op = .load 39 x) (g : Nat) (l : List Nat) (c : Nat)
    (hx : a.eval x = .pointer (some ⟨g, 0, none⟩)) (h : ∀ w, S w → RowI w g l c) : YieldsIf Try.prog ops S o (.agg (rowC l c)) a := by
  refine .inl ⟨by simp only [Region.wanted, hgd], fun w hw => ?_⟩
  unfold execOp
  simp only [ho, hx]
  have e := (h w hw).load
  simp only [Sem.run_bind, e, Result.andThen_ok, Sem.run_pure]
/-- A whole row stored, as an operation that comes up. -/
theorem store_op {ops : Array Oper} {i : Nat} {o : Oper} {a : Act} {w : World} {K : Act → World → Prop} {Q : Exit → Act → World → Prop} (hi : ops[i]? = some o) (hgd : o.guard = none) (x y : Operand) (ho : o.op = .store 39 x y) (g : Nat) (l l' : List Nat) (c c' : Nat)
    (hx : a.eval x = .pointer (some ⟨g, 0, none⟩)) (hy : a.eval y = .agg (rowC l' c')) (h : RowI w g l c) (hl : l'.length = 81) (k : K (a.put o.dst undef) (w.setRow g (rowC l' c'))) : wpOp Try.prog ops Q i K a w := by
  unfold wpOp
  simp only [hi, Region.wanted, hgd, if_true]
  exact .inl (wp_store_row _ x y ho g _ hx hy _ _ h.blk (by rw [rowC_size82 hl]; exact zero_row.2) (by rw [rowC_size82 hl, rowC_size82 h.len]) (rowC_one _ _) k)
theorem results_two {fn : Func} {p q : Tmp} {g g' c c' : Nat} {l l' : List Nat} {w : World} (hf : fn.results = #[.cell p 39, .cell q 39]) (tmps : Array Value) (h : RowI w g l c) (h' : RowI w g' l' c')
    (hp : tmps.getD p undef = .pointer (some ⟨g, 0, none⟩)) (hq : tmps.getD q undef = .pointer (some ⟨g', 0, none⟩)) : (results fn tmps).run Try.prog w = .ok (.tuple #[.agg (rowC l c), .agg (rowC l' c')]) w := by
  have e1 := run_loadVar_row (P := Try.prog) w g _ 39 _ _ _ h.blk Try.underlying39 rfl (by rw [rowC_size82 h.len]; exact zero_row.2)
  have e2 := run_loadVar_row (P := Try.prog) w g' _ 39 _ _ _ h'.blk Try.underlying39 rfl (by rw [rowC_size82 h'.len]; exact zero_row.2)
  have hp' : tmps[p]?.getD undef = .pointer (some ⟨g, 0, none⟩) := by simpa using hp
  have hq' : tmps[q]?.getD undef = .pointer (some ⟨g', 0, none⟩) := by simpa using hq
  simp [results, hf, hp', hq', asAddr, e1, e2, Sem.run_bind]
/-- What a division hands back. -/
def DivAgg (X Y : Nat) (w : World) (e : Ending) (w' : World) : Prop :=
  ∃ lq cq lr cr, e = .returned (.tuple #[.agg (rowC lq cq), .agg (rowC lr cr)]) ∧ lq.length = 81 ∧ lr.length = 81 ∧ RV lq cq ∧ RV lr cr ∧ W.lV lq = X / Y ∧ W.lV lr = X % Y ∧ cq ≤ 80 ∧ cr ≤ 80 ∧ Below w.heap.size w w'

/-! divByLimb -/
structure DvW (lx : List Nat) (cx d k : Nat) (q : List Nat) (r : Nat) : Prop where
  lim : W.Limbs q
  len : q.length = 81
  rd : r < d
  sum : W.lV lx = d * W.lV q + 4294967296 ^ k * r + W.lV (lx.take k)
  low : ∀ j, j < k → q.getD j 0 = 0
  high : ∀ j, cx ≤ j → q.getD j 0 = 0
theorem DvW.start {lx : List Nat} {cx d : Nat} (hd : 0 < d) (zx : ∀ k, cx ≤ k → lx.getD k 0 = 0) : DvW lx cx d cx Z81 0 :=
  ⟨Z81_lim, Z81_len, hd, by rw [Z81_val, W.lV_take_all zx]; simp, fun j _ => Z81_getD j, fun j _ => Z81_getD j⟩
theorem DvW.next {lx q : List Nat} {cx d j r n y s : Nat} (h : DvW lx cx d (j + 1) q r) (hj : j < cx) (hcx : cx ≤ 81) (hd : 0 < d) (hn : r * 4294967296 + lx.getD j 0 = n) (hy : n / d = y) (hs : n % d = s) (hy32 : y < 4294967296) : DvW lx cx d j (q.set j y) s := by
  have hset := W.lV_set q j y (by rw [h.len]; omega)
  rw [h.low j (by omega), Nat.mul_zero, Nat.add_zero] at hset
  refine ⟨h.lim.set _ hy32, by rw [List.length_set]; exact h.len, by rw [← hs]; exact Nat.mod_lt _ hd, ?_, fun k hk => by rw [W.getD_set_ne _ (by omega)]; exact h.low k (by omega), fun k hk => by rw [W.getD_set_ne _ (by omega)]; exact h.high k hk⟩
  have hsum := h.sum
  rw [W.lV_take_succ, Nat.pow_succ, Nat.mul_assoc] at hsum
  have e : d * y + s = n := by rw [← hy, ← hs]; exact Nat.div_add_mod n d
  rw [hset, Nat.mul_add, Nat.mul_left_comm]
  have e2 : 4294967296 ^ j * (d * y) + 4294967296 ^ j * s = 4294967296 ^ j * (4294967296 * r) + 4294967296 ^ j * lx.getD j 0 := by
    rw [← Nat.mul_add, ← Nat.mul_add, e, ← hn, Nat.mul_comm 4294967296 r]
  omega
theorem DvW.done {lx q : List Nat} {cx d r : Nat} (h : DvW lx cx d 0 q r) : W.lV q = W.lV lx / d ∧ r = W.lV lx % d := by
  have hs := h.sum
  have hr := h.rd
  rw [Nat.pow_zero, Nat.one_mul, List.take_zero] at hs
  have hs2 : W.lV lx = d * W.lV q + r := by rw [hs]; rfl
  rw [hs2]
  exact ⟨by rw [Nat.mul_add_div (by omega), Nat.div_eq_of_lt hr]; omega, by rw [Nat.mul_add_mod, Nat.mod_eq_of_lt hr]⟩
def one81 (r : Nat) : List Nat := Z81.set 0 r
theorem one81_len (r : Nat) : (one81 r).length = 81 := by unfold one81; rw [List.length_set]; exact Z81_len
theorem one81_set (r s : Nat) : (one81 r).set 0 s = one81 s := by unfold one81; rw [List.set_set]
theorem one81_zero : one81 0 = Z81 := by
  unfold one81
  exact List.ext_getElem (by simp) fun i h1 h2 => by simp [Z81]
theorem one81_at (r : Nat) : (one81 r).getD 0 0 = r := by
  unfold one81
  simp [Z81]
theorem one81_high (r : Nat) : ∀ k, 1 ≤ k → (one81 r).getD k 0 = 0 := fun k hk => by unfold one81; rw [W.getD_set_ne _ (by omega)]; exact Z81_getD k
theorem one81_lim {r : Nat} (h : r < 4294967296) : W.Limbs (one81 r) := Z81_lim.set _ h
theorem one81_val (r : Nat) : W.lV (one81 r) = r := by
  have := W.lV_set Z81 0 r (by rw [Z81_len]; omega)
  rw [Z81_getD, Z81_val] at this
  unfold one81
  simpa using this
/-- A call's own four rows. -/
structure Work4 (w wr : World) (q : List Nat) (cq : Nat) (r : List Nat) (cr : Nat) : Prop where
  o1 : RowI wr w.heap.size Z81 0
  o2 : RowI wr (w.heap.size + 1) Z81 0
  q : RowI wr (w.heap.size + 2) q cq
  r : RowI wr (w.heap.size + 3) r cr
  b : Below w.heap.size w wr
theorem Work4.start (w : World) {Z : Array Value} (hZ : rowC Z81 0 = Z) : Work4 w ((((w.alloc (.cells Z 39)).alloc (.cells Z 39)).alloc (.cells Z 39)).alloc (.cells Z 39)) Z81 0 Z81 0 := by
  have h1 := Work.start w hZ
  have h2 := Work.start ((w.alloc (.cells Z 39)).alloc (.cells Z 39)) hZ
  have hs : ((w.alloc (.cells Z 39)).alloc (.cells Z 39)).heap.size = w.heap.size + 2 := by simp
  rw [show w.heap.size + 2 = w.heap.size + 2 from rfl] at hs
  refine ⟨h1.out.below h2.b (by rw [hs]; omega), h1.row.below h2.b (by rw [hs]; omega), ?_, ?_, h1.b.trans (h2.b.mono (by rw [hs]; omega))⟩
  · have := h2.out; rw [hs] at this; exact this
  · have := h2.row; rw [hs] at this; exact this
theorem Work4.drewN {w wr : World} {q r : List Nat} {cq cr : Nat} (h : Work4 w wr q cq r cr) (k : Nat) : Work4 w (wr.drewN k) q cq r cr := ⟨h.o1.other rfl, h.o2.other rfl, h.q.other rfl, h.r.other rfl, bdN h.b k⟩
theorem Work4.setQ {w wr : World} {q r : List Nat} {cq cr k : Nat} (h : Work4 w wr q cq r cr) (y : Nat) (hk : k < 81) : Work4 w (wr.setCell ⟨w.heap.size + 2, k, none⟩ (.int .u32 (y : Int))) (q.set k y) cq r cr :=
  ⟨h.o1.apart (by omega), h.o2.apart (by omega), h.q.set y hk, h.r.apart (by omega), h.b.setCell (p := ⟨w.heap.size + 2, k, none⟩) (by simp) _⟩
theorem Work4.setR {w wr : World} {q r : List Nat} {cq cr k : Nat} (h : Work4 w wr q cq r cr) (y : Nat) (hk : k < 81) : Work4 w (wr.setCell ⟨w.heap.size + 3, k, none⟩ (.int .u32 (y : Int))) q cq (r.set k y) cr :=
  ⟨h.o1.apart (by omega), h.o2.apart (by omega), h.q.apart (by omega), h.r.set y hk, h.b.setCell (p := ⟨w.heap.size + 3, k, none⟩) (by simp) _⟩
theorem Work4.cntQ {w wr : World} {q r : List Nat} {cq cr : Nat} (h : Work4 w wr q cq r cr) (y : Nat) : Work4 w (wr.setCell ⟨w.heap.size + 2, 81, none⟩ (.int .i64 (y : Int))) q y r cr :=
  ⟨h.o1.apart (by omega), h.o2.apart (by omega), h.q.setC y, h.r.apart (by omega), h.b.setCell (p := ⟨w.heap.size + 2, 81, none⟩) (by simp) _⟩
theorem Work4.cntR {w wr : World} {q r : List Nat} {cq cr : Nat} (h : Work4 w wr q cq r cr) (y : Nat) : Work4 w (wr.setCell ⟨w.heap.size + 3, 81, none⟩ (.int .i64 (y : Int))) q cq r y :=
  ⟨h.o1.apart (by omega), h.o2.apart (by omega), h.q.apart (by omega), h.r.setC y, h.b.setCell (p := ⟨w.heap.size + 3, 81, none⟩) (by simp) _⟩

set_option maxRecDepth 8000 in
set_option maxHeartbeats 4000000 in
theorem divByLimb_any (gx cx d : Nat) (lx : List Nat) (w : World) (hx : RowI w gx lx cx) (vx : RV lx cx) (hcx : cx ≤ 79) (hd0 : 0 < d) (hd : d < 4294967296) :
    Calls Try.prog 32 #[.pointer (some ⟨gx, 0, none⟩), .int .u32 (d : Int)] w (DivAgg (W.lV lx) d w) := by
  obtain ⟨Z, hZ⟩ : ∃ Z, rowC Z81 0 = Z := ⟨_, rfl⟩
  have hz := zero_row.1
  rw [hZ] at hz
  have HZ := Lib.hid hZ
  have HX := Lib.hid hx
  have HVX := Lib.hid vx
  have ltx := hx.lt
  have HW := Work4.start w HZ.out
  obtain ⟨x1, x2⟩ := (HX.out.below HW.b ltx).cnt
  have HW1 := Lib.hid HW
  have n1 : ¬ gx = w.heap.size + 2 := by omega
  have n2 : ¬ gx = w.heap.size + 3 := by omega
  clear hZ hx vx HW
  go_enter Try.func32, Try.ntmps32
  go_wp2
  clear x1 x2 hz
  go_loopw [8] (fun iv wr => ∃ (k r : Nat) (q : List Nat), k ≤ cx ∧ iv = .int .i64 ((k : Int) - 1) ∧ Hid (DvW lx cx d k q r) ∧ Hid (Work4 w wr q 0 (one81 r) 0)) (fun iv _ => (intOf iv + 1).toNat)
  case atStart => exact ⟨cx, 0, Z81, Nat.le_refl _, rfl, DvW.start hd0 HVX.out.zero, by rw [one81_zero]; exact HW1⟩
  case round =>
    clear HW1
    obtain ⟨k, r, q, hk, rfl, hI, hW⟩ := hrel
    by_cases h0 : 0 < k
    · obtain ⟨j, rfl⟩ : ∃ j, k = j + 1 := ⟨k - 1, by omega⟩
      have hji : (((j + 1 : Nat) : Int) - 1) = (j : Int) := by omega
      rw [hji]
      have hj0 : (0 : Int) ≤ (j : Int) := by omega
      have hj81 : (j : Int) < 81 := by omega
      obtain ⟨x1, _⟩ := (HX.out.below hW.out.b ltx).cell (k := j) (by omega)
      obtain ⟨r1, fr⟩ := hW.out.r.cell (k := 0) (by omega)
      rw [one81_at] at r1
      obtain ⟨q1, fq⟩ := hW.out.q.cell (k := j) (by omega)
      generalize q.getD j 0 = z at *
      have bx := W.getD_lt HVX.out.lim j
      obtain ⟨x, hx⟩ : ∃ x, lx.getD j 0 = x := ⟨_, rfl⟩
      rw [hx] at x1 bx
      obtain ⟨n, hn⟩ : ∃ n, r * 4294967296 + x = n := ⟨_, rfl⟩
      obtain ⟨y, hy⟩ : ∃ y, n / d = y := ⟨_, rfl⟩
      obtain ⟨s, hs⟩ : ∃ s, n % d = s := ⟨_, rfl⟩
      have hbd := div32_bd hI.out.rd hd bx hn
      rw [hy, hs] at hbd
      have HN := Lib.hid (hI.out.next (by omega) (by omega) hd0 (by rw [hx]; exact hn) hy hs hbd.1)
      have HA := Lib.hid (fun w => div32_any r x d n y s hI.out.rd hd bx hn hy hs w)
      have W5 := (hW.out.setQ (k := j) y (by omega)).setR (k := 0) s (by omega)
      rw [one81_set] at W5
      have HW5 := Lib.hid W5
      clear hx hn hy hs hbd hI hW W5 hji
      go_wp2_with fail
      go_region_law (first | (go_simp; go_at_call 58; refine (HA.out _).mono ?_; rintro e w' ⟨rfl, nk, rfl⟩))
      all_goals (
        go_wp2
        go_roundw
        case rel => exact ⟨j, s, q.set j y, by omega, by go_num, HN, HW5.out.drewN _⟩
        case measure => simp [intOf])
    · obtain rfl : k = 0 := by omega
      have hneg : ¬ (0 : Int) ≤ ((0 : Nat) : Int) - 1 := by omega
      obtain ⟨x1, x2⟩ := (HX.out.below hW.out.b ltx).cnt
      have HD := Lib.hid hI.out.done
      have hr32 : r < 4294967296 := Nat.lt_trans hI.out.rd hd
      have HC := Lib.hid (countBelow_any (w.heap.size + 2) 0 cx q _ hW.out.q (by omega))
      have HRq := Lib.hid (fun k (h : CountRel q cx k) => And.intro (h.right hI.out.lim hI.out.high) h.le)
      have HRr := Lib.hid (fun k (h : CountRel (one81 r) 1 k) => And.intro (h.right (one81_lim hr32) (one81_high r)) h.le)
      have HLq := Lib.hid hI.out.len
      clear hI
      go_wp2_with fail
      refine HC.out.mono ?_
      rintro e w1 ⟨cq, hcq, rfl, rfl⟩
      have W5 := hW.out.cntQ cq
      have HVq := Lib.hid (HRq.out cq hcq)
      clear HC HRq hcq hW x1 x2
      generalize wr.setCell ⟨w.heap.size + 2, 81, none⟩ (.int .i64 (cq : Int)) = w2 at *
      have HC2 := Lib.hid (countBelow_any (w.heap.size + 3) 0 1 (one81 r) _ W5.r (by omega))
      have HW5 := Lib.hid W5
      clear W5
      go_wp2_with fail
      refine HC2.out.mono ?_
      rintro e w1 ⟨cr, hcr, rfl, rfl⟩
      have W6 := HW5.out.cntR cr
      have HVr := Lib.hid (HRr.out cr hcr)
      clear HC2 HRr hcr HW5
      generalize w2.setCell ⟨w.heap.size + 3, 81, none⟩ (.int .i64 (cr : Int)) = w3 at *
      have W7 := W6.drewN 1
      change Work4 w w3.drew q cq (one81 r) cr at W7
      have HL1 := one81_len r
      have HW7 := Lib.hid W7
      have HO1 := (W7.o1.stored (c' := cq) HLq.out)
      have HO2 := (W7.o2.storedApart (g' := w.heap.size) (cs := rowC q cq) (by omega)).stored (c' := cr) HL1
      have HO1' := Lib.hid (HO1.storedApart (g' := w.heap.size + 1) (cs := rowC (one81 r) cr) (by omega))
      have HO2' := Lib.hid HO2
      have HB := Lib.hid (below_setRow (below_setRow W7.b (Nat.le_refl _) (rowC q cq)) (show w.heap.size ≤ w.heap.size + 1 by omega) (rowC (one81 r) cr))
      have HL := Lib.hid HL1
      clear W6 W7 HO1 HO2 HL1
      go_wp2_with fail
      refine wp_region_held (S := fun w' => RowI w' (w.heap.size + 2) q cq ∧ RowI w' (w.heap.size + 3) (one81 r) cr) (by kernel_rfl) ?_
      change wpAnyH _ _ _ _ _ _ _ _ w3.drew
      generalize w3.drew = w4 at *
      refine wpAnyH_take (i := 0) (v := .agg (rowC q cq)) rfl (by kernel_rfl) (by kernel_rfl) (by kernel_rfl) (fun _ _ _ h => h) (yields_load rfl (.tmp 6) rfl (w.heap.size + 2) q cq rfl fun _ h => h.1) ⟨HW7.out.q, HW7.out.r⟩ ?_
      refine wpAnyH_take (i := 1) (v := .agg (rowC (one81 r) cr)) rfl (by kernel_rfl) (by kernel_rfl) (by kernel_rfl) (fun _ _ _ h => h) (yields_load rfl (.tmp 7) rfl (w.heap.size + 3) (one81 r) cr rfl fun _ h => h.2) ⟨HW7.out.q, HW7.out.r⟩ ?_
      refine wpAnyH_all (rs := [2]) (by kernel_rfl) (by decide) ?_
      intro i hi
      obtain rfl : i = 2 := by simpa using hi
      refine store_op rfl rfl (.tmp 4) (.tmp 43) rfl w.heap.size Z81 q 0 cq rfl rfl HW7.out.o1 HLq.out ⟨⟨HW7.out.q.storedApart (by omega), HW7.out.r.storedApart (by omega)⟩, ?_⟩
      refine wpAnyH_all (rs := [3]) (by kernel_rfl) (by decide) ?_
      intro i hi
      obtain rfl : i = 3 := by simpa using hi
      refine store_op rfl rfl (.tmp 5) (.tmp 44) rfl (w.heap.size + 1) Z81 (one81 r) 0 cr rfl rfl (HW7.out.o2.storedApart (by omega)) HL.out ⟨⟨(HW7.out.q.storedApart (by omega)).storedApart (by omega), (HW7.out.r.storedApart (by omega)).storedApart (by omega)⟩, ?_⟩
      refine wpAnyH_done (by kernel_rfl) ?_ _
      go_wp2
      exact bodyPost_ret (results_two Try.results32 _ HO1'.out HO2'.out rfl rfl) rfl ⟨q, cq, one81 r, cr, rfl, HLq.out, HL.out, HVq.out.1, HVr.out.1, HD.out.1, by rw [one81_val]; exact HD.out.2, by have := HVq.out.2; omega, by have := HVr.out.2; omega, HB.out⟩
end Go.Proofs.Ytkpcocdflcpnoaa

import Derived.Test.YtmbhodhghgdbhaaYMath
import Derived.Test.YtmbhodhghgdbhaaJTri
import Derived.Test.YtmbhodhghgdbhaaUInvs
namespace Go.Proofs.Ytmbhodhghgdbhaa
open Go.RowKit
theorem cvC_cells {w : World} {g : Nat} {id : Int} (h : w.heap[g]? = some (.cells (cvC id) 28 (0, 0))) :
    w.cell? ⟨g, 0, none⟩ = some (.string (cvNT id)) ∧ w.cell? ⟨g, 1, none⟩ = some (.string (cvPT id)) ∧ w.cell? ⟨g, 2, none⟩ = some (.string (cvRT id)) ∧ w.cell? ⟨g, 3, none⟩ = some (.string (cvBT id)) ∧ w.cell? ⟨g, 6, none⟩ = some (.int .i64 (cvSz id)) := by
  rw [cvC_eq] at h
  exact ⟨(cell_of_row w g 0 _ _ _ h).trans rfl, (cell_of_row w g 1 _ _ _ h).trans rfl, (cell_of_row w g 2 _ _ _ h).trans rfl, (cell_of_row w g 3 _ _ _ h).trans rfl, (cell_of_row w g 6 _ _ _ h).trans rfl⟩
theorem cvC_pair {w : World} {g : Nat} {id : Int} (h : w.heap[g]? = some (.cells (cvC id) 28 (0, 0))) : (Instr.loadAt 26 (.pointer (some ⟨g, 4, none⟩))).run Try.prog w = .ok (.agg (aggT (cvKT id))) w := by
  rw [cvC_eq] at h
  have e := run_loadAt_mid (P := Try.prog) w g 4 26 (aggT (cvKT id)).toList _ (fun j v hv => by
    rw [cell_of_row w g (4 + j) _ _ _ h]
    match j with
    | 0 => simpa [aggT] using hv
    | 1 => simpa [aggT] using hv
    | j + 2 => simp [aggT] at hv) Try.underlying26 rfl Try.infoP
  simpa using e
/-- What is handed on of a curve whose cells have a letter. -/
structure CvIn (C : Array Value) (n p r b : ByteArray) (k : Pt) (sz : Int) : Prop where
  size : C.size = 9
  one : C.all (·.oneCell') = true
  cells : ∀ (w : World) (g : Nat), w.heap[g]? = some (.cells C 28 (0, 0)) → w.cell? ⟨g, 0, none⟩ = some (.string n) ∧ w.cell? ⟨g, 1, none⟩ = some (.string p) ∧ w.cell? ⟨g, 2, none⟩ = some (.string r) ∧ w.cell? ⟨g, 3, none⟩ = some (.string b) ∧ w.cell? ⟨g, 6, none⟩ = some (.int .i64 sz)
  pair : ∀ (w : World) (g : Nat), w.heap[g]? = some (.cells C 28 (0, 0)) → (Instr.loadAt 26 (.pointer (some ⟨g, 4, none⟩))).run Try.prog w = .ok (.agg (aggT k)) w
theorem cv_in (id : Int) : CvIn (cvC id) (cvNT id) (cvPT id) (cvRT id) (cvBT id) (cvKT id) (cvSz id) := ⟨cvC_size id, cvC_one id, fun _ _ h => cvC_cells h, fun _ _ h => cvC_pair h⟩
theorem CvIn.strs {C : Array Value} {n p r b : ByteArray} {k : Pt} {sz : Int} (h : CvIn C n p r b k sz) {w : World} {g : Nat} (hg : w.heap[g]? = some (.cells C 28 (0, 0))) :
    (Instr.loadAt 9 (.pointer (some ⟨g, 0, none⟩))).run Try.prog w = .ok (.string n) w ∧ (Instr.loadAt 9 (.pointer (some ⟨g, 1, none⟩))).run Try.prog w = .ok (.string p) w ∧ (Instr.loadAt 9 (.pointer (some ⟨g, 2, none⟩))).run Try.prog w = .ok (.string r) w ∧ (Instr.loadAt 9 (.pointer (some ⟨g, 3, none⟩))).run Try.prog w = .ok (.string b) w := by
  obtain ⟨c0, c1, c2, c3, _⟩ := h.cells w g hg
  exact ⟨str_load c0, str_load c1, str_load c2, str_load c3⟩
theorem int_load {w : World} {g k : Nat} {x : Int} (h : w.cell? ⟨g, k, none⟩ = some (.int .i64 x)) : (Instr.loadAt 3 (.pointer (some ⟨g, k, none⟩))).run Try.prog w = .ok (.int .i64 x) w := by
  go_simp
/-- The variable of a curve, new made and filled. -/
structure CvVar (w w' : World) (C : Array Value) : Prop where
  at0 : (w.alloc (.cells cv0 28)).heap[w.heap.size]? = some (.cells cv0 28 (0, 0))
  at1 : w'.heap[w.heap.size]? = some (.cells C 28 (0, 0))
  b : Below w.heap.size w w'
theorem cv_var' (w : World) {C : Array Value} (hs : C.size = 9) : CvVar w ((w.alloc (.cells cv0 28)).setRow w.heap.size C) C := ⟨(cv_var w C hs).1, (cv_var w C hs).2.1, (cv_var w C hs).2.2.1⟩
/-! Results. -/
theorem ret_at {fn : Func} {t : Tmp} {R : Ending → World → Prop} {a : Act} {w : World} {v : Value} (hf : fn.results = #[.tmp t]) (ht : a.tmps.getD t undef = v) (hd : a.defers = []) (hR : R (.returned v) w) : bodyPost Try.prog fn R .ret a w :=
  bodyPost_ret (results_tmp hf _ _ _) hd (by rw [ht]; exact hR)
set_option maxRecDepth 8000 in
set_option maxHeartbeats 4000000 in
theorem scalarOk_any (id : Int) (s : ByteArray) (w : World) : Calls Try.prog 33 #[.int .i64 id, .string s] w fun e w' => e = .returned (.bool (scalB id s)) ∧ Below w.heap.size w w' := by
  have HK := Lib.hid (curveOf_any id)
  have HC := Lib.hid (cv_in id)
  have HO := Lib.hid (restOk_any s (cvRT id))
  unfold scalB
  generalize cvC id = C at *
  generalize cvNT id = tn at *
  generalize cvPT id = tp at *
  generalize cvRT id = tr at *
  generalize cvBT id = tb at *
  generalize cvKT id = tk at *
  generalize cvSz id = sz at *
  generalize restB s tr = rb at *
  cases hb : cvB id with
  | false =>
    rw [hb] at HK
    rw [Bool.false_and]
    clear hb
    go_enter Try.func33, Try.ntmps33
    go_wp2_with fail
    refine (HK.out _).mono ?_
    rintro e w1 ⟨rfl, b1⟩
    have V := Lib.hid (cv_var' w1 HC.out.size)
    have HB := Lib.hid (bt b1 V.out.b)
    clear b1 HK HO
    go_wp2_with (first | refine cv_store rfl (.tmp 5) (.tmp 10) rfl w1.heap.size cv0 C rfl rfl V.out.at0 rfl HC.out.size HC.out.one ?_)
    go_ret
    exact ⟨rfl, HB.out⟩
  | true =>
    rw [hb] at HK
    rw [Bool.true_and]
    clear hb
    go_enter Try.func33, Try.ntmps33
    go_wp2_with fail
    refine (HK.out _).mono ?_
    rintro e w1 ⟨rfl, b1⟩
    have V := Lib.hid (cv_var' w1 HC.out.size)
    have HB := Lib.hid (bt b1 V.out.b)
    obtain ⟨c0, c1, c2, c3, c4⟩ := HC.out.cells _ _ V.out.at1
    clear b1 HK
    go_wp2_with (first | refine cv_store rfl (.tmp 5) (.tmp 10) rfl w1.heap.size cv0 C rfl rfl V.out.at0 rfl HC.out.size HC.out.one ?_)
    refine (HO.out _).mono ?_
    rintro e w2 ⟨rfl, b2⟩
    have HB2 := Lib.hid (bt HB.out b2)
    clear b2 HB c0 c1 c2 c3 c4 V
    go_wp2
    go_ret
    exact ⟨rfl, HB2.out⟩
/-! The base points. -/
def ptT (x y : ByteArray) : Array Value := #[.bool false, .string x, .string y]
def ppT (x y : Pt) : Array Value := #[.bool false, .string x.1, .string x.2, .string y.1, .string y.2]
theorem Try.infoPoint : (Try.prog.info? 34).map (·.size) = some 3 := by kernel_rfl
theorem Try.infoPairPoint : (Try.prog.info? 37).map (·.size) = some 5 := by kernel_rfl
set_option maxRecDepth 8000 in
set_option maxHeartbeats 4000000 in
theorem baseOf_any {id : Int} (h : cvB id = true) (w : World) : Calls Try.prog 16 #[.int .i64 id] w fun e w' => e = .returned (.agg (ptT (bsX id) (bsY id))) ∧ Below w.heap.size w w' := by
  have hb := (Below.refl w.heap.size w).alloc (Nat.le_refl _)
  rcases four_ids h with rfl | rfl | rfl | rfl
  · clear h
    go_enter Try.func16, Try.ntmps16
    go_wp2
    exact bodyPost_ret (results_cell_row Try.results16 _ _ w.heap.size _ _ _ _ rfl (heap_alloc_new w _) Try.underlying34 rfl Try.infoPoint) rfl ⟨rfl, hb _⟩
  · clear h
    go_enter Try.func16, Try.ntmps16
    go_wp2
    exact bodyPost_ret (results_cell_row Try.results16 _ _ w.heap.size _ _ _ _ rfl (heap_alloc_new w _) Try.underlying34 rfl Try.infoPoint) rfl ⟨rfl, hb _⟩
  · clear h
    go_enter Try.func16, Try.ntmps16
    go_wp2
    exact bodyPost_ret (results_cell_row Try.results16 _ _ w.heap.size _ _ _ _ rfl (heap_alloc_new w _) Try.underlying34 rfl Try.infoPoint) rfl ⟨rfl, hb _⟩
  · clear h
    go_enter Try.func16, Try.ntmps16
    go_wp2
    exact bodyPost_ret (results_cell_row Try.results16 _ _ w.heap.size _ _ _ _ rfl (heap_alloc_new w _) Try.underlying34 rfl Try.infoPoint) rfl ⟨rfl, hb _⟩
set_option maxRecDepth 8000 in
set_option maxHeartbeats 4000000 in
theorem pairBase_any {id : Int} (h : cvB id = true) (w : World) : Calls Try.prog 17 #[.int .i64 id] w fun e w' => e = .returned (.agg (ppT (bpX id) (bpY id))) ∧ Below w.heap.size w w' := by
  have hb := (Below.refl w.heap.size w).alloc (Nat.le_refl _)
  rcases four_ids h with rfl | rfl | rfl | rfl
  · clear h
    go_enter Try.func17, Try.ntmps17
    go_wp2
    exact bodyPost_ret (results_cell_row Try.results17 _ _ w.heap.size _ _ _ _ rfl (heap_alloc_new w _) Try.underlying37 rfl Try.infoPairPoint) rfl ⟨rfl, hb _⟩
  · clear h
    go_enter Try.func17, Try.ntmps17
    go_wp2
    exact bodyPost_ret (results_cell_row Try.results17 _ _ w.heap.size _ _ _ _ rfl (heap_alloc_new w _) Try.underlying37 rfl Try.infoPairPoint) rfl ⟨rfl, hb _⟩
  · clear h
    go_enter Try.func17, Try.ntmps17
    go_wp2
    exact bodyPost_ret (results_cell_row Try.results17 _ _ w.heap.size _ _ _ _ rfl (heap_alloc_new w _) Try.underlying37 rfl Try.infoPairPoint) rfl ⟨rfl, hb _⟩
  · clear h
    go_enter Try.func17, Try.ntmps17
    go_wp2
    exact bodyPost_ret (results_cell_row Try.results17 _ _ w.heap.size _ _ _ _ rfl (heap_alloc_new w _) Try.underlying37 rfl Try.infoPairPoint) rfl ⟨rfl, hb _⟩
/-! By name. -/
def CvOut (n : ByteArray) (w : World) (e : Ending) (w' : World) : Prop := ∃ p r b k1 k2 : ByteArray, ∃ sz sc : Int, ∃ br : Bool, e = .returned (.agg #[.string n, .string p, .string r, .string b, .string k1, .string k2, .int .i64 sz, .int .i64 sc, .bool br]) ∧ Below w.heap.size w w'
theorem cv_out (k : Int) (w : World) : Calls Try.prog 37 #[.int .i64 k] w (CvOut (cvNT k) w) := (l09Curve_any k w).mono fun _ _ h => ⟨_, _, _, _, _, _, _, _, h.1.trans (congrArg (fun C => Ending.returned (Value.agg C)) (cvC_eq k)), h.2⟩
theorem field_name (n p r b k1 k2 : ByteArray) (sz sc : Int) (br : Bool) (w : World) : (Instr.field 28 (.agg #[.string n, .string p, .string r, .string b, .string k1, .string k2, .int .i64 sz, .int .i64 sc, .bool br]) 0).run Try.prog w = .ok (.string n) w := by kernel_rfl
set_option maxRecDepth 8000 in
set_option maxHeartbeats 8000000 in
theorem curveNamed_any (s : ByteArray) (w : World) : Calls Try.prog 27 #[.string s] w fun e w' => e = .returned (.int .i64 (namedN s)) ∧ Below w.heap.size w w' := by
  have H1 := Lib.hid (cv_out 1)
  have H2 := Lib.hid (cv_out 2)
  have H3 := Lib.hid (cv_out 3)
  have H4 := Lib.hid (cv_out 4)
  have HB0 := Lib.hid (Below.refl w.heap.size w)
  unfold namedN sameT
  rw [show cvNT 1 = cvN1 from rfl] at H1
  rw [show cvNT 2 = cvN2 from rfl] at H2
  rw [show cvNT 3 = cvN3 from rfl] at H3
  rw [show cvNT 4 = cvN4 from rfl] at H4
  generalize cvN1 = n1 at *
  generalize cvN2 = n2 at *
  generalize cvN3 = n3 at *
  generalize cvN4 = n4 at *
  cases e1 : (n1.toList == s.toList) with
  | true =>
    rw [if_pos rfl]
    clear H2 H3 H4
    go_enter Try.func27, Try.ntmps27
    go_wp2
    refine wp_loop_rounds 6 ?_
    rw [rounds_succ]
    go_wp2_with fail
    refine (H1.out _).mono ?_
    rintro e w1 ⟨p, r, b, k1, k2, sz, sc, br, rfl, b1⟩
    have HB1 := Lib.hid (bt HB0.out b1)
    have hF := field_name n1 p r b k1 k2 sz sc br w1
    clear b1 H1 HB0
    go_wp2_with fail
    clear hF
    go_ret
    exact ⟨rfl, HB1.out⟩
  | false =>
  rw [if_neg (by decide)]
  cases e2 : (n2.toList == s.toList) with
  | true =>
    rw [if_pos rfl]
    clear H3 H4
    go_enter Try.func27, Try.ntmps27
    go_wp2
    refine wp_loop_rounds 6 ?_
    rw [rounds_succ]
    go_wp2_with fail
    refine (H1.out _).mono ?_
    rintro e w1 ⟨p, r, b, k1, k2, sz, sc, br, rfl, b1⟩
    have HB1 := Lib.hid (bt HB0.out b1)
    have hF := field_name n1 p r b k1 k2 sz sc br w1
    clear b1 H1 HB0
    go_wp2_with fail
    clear hF
    rw [rounds_succ]
    go_wp2_with fail
    refine (H2.out _).mono ?_
    rintro e w2 ⟨p, r, b, k1, k2, sz, sc, br, rfl, b1⟩
    have HB2 := Lib.hid (bt HB1.out b1)
    have hF := field_name n2 p r b k1 k2 sz sc br w2
    clear b1 H2 HB1
    go_wp2_with fail
    clear hF
    go_ret
    exact ⟨rfl, HB2.out⟩
  | false =>
  rw [if_neg (by decide)]
  cases e3 : (n3.toList == s.toList) with
  | true =>
    rw [if_pos rfl]
    clear H4
    go_enter Try.func27, Try.ntmps27
    go_wp2
    refine wp_loop_rounds 6 ?_
    rw [rounds_succ]
    go_wp2_with fail
    refine (H1.out _).mono ?_
    rintro e w1 ⟨p, r, b, k1, k2, sz, sc, br, rfl, b1⟩
    have HB1 := Lib.hid (bt HB0.out b1)
    have hF := field_name n1 p r b k1 k2 sz sc br w1
    clear b1 H1 HB0
    go_wp2_with fail
    clear hF
    rw [rounds_succ]
    go_wp2_with fail
    refine (H2.out _).mono ?_
    rintro e w2 ⟨p, r, b, k1, k2, sz, sc, br, rfl, b1⟩
    have HB2 := Lib.hid (bt HB1.out b1)
    have hF := field_name n2 p r b k1 k2 sz sc br w2
    clear b1 H2 HB1
    go_wp2_with fail
    clear hF
    rw [rounds_succ]
    go_wp2_with fail
    refine (H3.out _).mono ?_
    rintro e w3 ⟨p, r, b, k1, k2, sz, sc, br, rfl, b1⟩
    have HB3 := Lib.hid (bt HB2.out b1)
    have hF := field_name n3 p r b k1 k2 sz sc br w3
    clear b1 H3 HB2
    go_wp2_with fail
    clear hF
    go_ret
    exact ⟨rfl, HB3.out⟩
  | false =>
  rw [if_neg (by decide)]
  cases e4 : (n4.toList == s.toList) with
  | true =>
    rw [if_pos rfl]
    go_enter Try.func27, Try.ntmps27
    go_wp2
    refine wp_loop_rounds 6 ?_
    rw [rounds_succ]
    go_wp2_with fail
    refine (H1.out _).mono ?_
    rintro e w1 ⟨p, r, b, k1, k2, sz, sc, br, rfl, b1⟩
    have HB1 := Lib.hid (bt HB0.out b1)
    have hF := field_name n1 p r b k1 k2 sz sc br w1
    clear b1 H1 HB0
    go_wp2_with fail
    clear hF
    rw [rounds_succ]
    go_wp2_with fail
    refine (H2.out _).mono ?_
    rintro e w2 ⟨p, r, b, k1, k2, sz, sc, br, rfl, b1⟩
    have HB2 := Lib.hid (bt HB1.out b1)
    have hF := field_name n2 p r b k1 k2 sz sc br w2
    clear b1 H2 HB1
    go_wp2_with fail
    clear hF
    rw [rounds_succ]
    go_wp2_with fail
    refine (H3.out _).mono ?_
    rintro e w3 ⟨p, r, b, k1, k2, sz, sc, br, rfl, b1⟩
    have HB3 := Lib.hid (bt HB2.out b1)
    have hF := field_name n3 p r b k1 k2 sz sc br w3
    clear b1 H3 HB2
    go_wp2_with fail
    clear hF
    rw [rounds_succ]
    go_wp2_with fail
    refine (H4.out _).mono ?_
    rintro e w4 ⟨p, r, b, k1, k2, sz, sc, br, rfl, b1⟩
    have HB4 := Lib.hid (bt HB3.out b1)
    have hF := field_name n4 p r b k1 k2 sz sc br w4
    clear b1 H4 HB3
    go_wp2_with fail
    clear hF
    go_ret
    exact ⟨rfl, HB4.out⟩
  | false =>
  rw [if_neg (by decide)]
  go_enter Try.func27, Try.ntmps27
  go_wp2
  refine wp_loop_rounds 6 ?_
  rw [rounds_succ]
  go_wp2_with fail
  refine (H1.out _).mono ?_
  rintro e w1 ⟨p, r, b, k1, k2, sz, sc, br, rfl, b1⟩
  have HB1 := Lib.hid (bt HB0.out b1)
  have hF := field_name n1 p r b k1 k2 sz sc br w1
  clear b1 H1 HB0
  go_wp2_with fail
  clear hF
  rw [rounds_succ]
  go_wp2_with fail
  refine (H2.out _).mono ?_
  rintro e w2 ⟨p, r, b, k1, k2, sz, sc, br, rfl, b1⟩
  have HB2 := Lib.hid (bt HB1.out b1)
  have hF := field_name n2 p r b k1 k2 sz sc br w2
  clear b1 H2 HB1
  go_wp2_with fail
  clear hF
  rw [rounds_succ]
  go_wp2_with fail
  refine (H3.out _).mono ?_
  rintro e w3 ⟨p, r, b, k1, k2, sz, sc, br, rfl, b1⟩
  have HB3 := Lib.hid (bt HB2.out b1)
  have hF := field_name n3 p r b k1 k2 sz sc br w3
  clear b1 H3 HB2
  go_wp2_with fail
  clear hF
  rw [rounds_succ]
  go_wp2_with fail
  refine (H4.out _).mono ?_
  rintro e w4 ⟨p, r, b, k1, k2, sz, sc, br, rfl, b1⟩
  have HB4 := Lib.hid (bt HB3.out b1)
  have hF := field_name n4 p r b k1 k2 sz sc br w4
  clear b1 H4 HB3
  go_wp2_with fail
  clear hF
  rw [rounds_succ]
  go_wp2
  go_ret
  exact ⟨rfl, HB4.out⟩
end Go.Proofs.Ytmbhodhghgdbhaa

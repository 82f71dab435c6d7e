import Derived.Test.YtmbhodhghgdbhaaYSpec
import Derived.Test.YtmbhodhghgdbhaaJHalf
import Derived.Test.YtmbhodhghgdbhaaJPairC
namespace Go.Proofs.Ytmbhodhghgdbhaa
open Go.RowKit
set_option maxRecDepth 8000 in
set_option maxHeartbeats 8000000 in
theorem curveOf_i (id : Int) (w : World) : Calls Try.prog 12 #[.int .i64 id] w fun e w' => e = .returned (.tuple #[.agg (cvC id), .bool (cvB id)]) ∧ Below w.heap.size w w' := by
  have hb2 : ∀ A B : Obj, Below w.heap.size w ((w.alloc A).alloc B) := fun A B => ((Below.refl w.heap.size w).alloc (Nat.le_refl _) A).alloc (by simp) B
  by_cases h1 : id = 1
  · subst h1
    skip
    have HR := Lib.hid (fun (tmps : Array Value) (B : Obj) => cv_result2 (w := (w.alloc (.cells cv1 28)).alloc B) (heap_alloc2_old w (.cells cv1 28) B) rfl Try.results12 tmps)
    go_enter Try.func12, Try.ntmps12
    go_wp2
    exact bodyPost_ret (HR.out _ _ rfl) rfl ⟨rfl, hb2 _ _⟩
  by_cases h2 : id = 2
  · subst h2
    clear h1
    have HR := Lib.hid (fun (tmps : Array Value) (B : Obj) => cv_result2 (w := (w.alloc (.cells cv2 28)).alloc B) (heap_alloc2_old w (.cells cv2 28) B) rfl Try.results12 tmps)
    go_enter Try.func12, Try.ntmps12
    go_wp2
    exact bodyPost_ret (HR.out _ _ rfl) rfl ⟨rfl, hb2 _ _⟩
  by_cases h3 : id = 3
  · subst h3
    clear h1 h2
    have HR := Lib.hid (fun (tmps : Array Value) (B : Obj) => cv_result2 (w := (w.alloc (.cells cv3 28)).alloc B) (heap_alloc2_old w (.cells cv3 28) B) rfl Try.results12 tmps)
    go_enter Try.func12, Try.ntmps12
    go_wp2
    exact bodyPost_ret (HR.out _ _ rfl) rfl ⟨rfl, hb2 _ _⟩
  by_cases h4 : id = 4
  · subst h4
    clear h1 h2 h3
    have HR := Lib.hid (fun (tmps : Array Value) (B : Obj) => cv_result2 (w := (w.alloc (.cells cv4 28)).alloc B) (heap_alloc2_old w (.cells cv4 28) B) rfl Try.results12 tmps)
    go_enter Try.func12, Try.ntmps12
    go_wp2
    exact bodyPost_ret (HR.out _ _ rfl) rfl ⟨rfl, hb2 _ _⟩
  have e : cvC id = cv0 := by unfold cvC; rw [if_neg h1, if_neg h2, if_neg h3, if_neg h4]
  have e2 : cvB id = false := by
    cases hq : cvB id with
    | false => rfl
    | true => rcases four_ids hq with h | h | h | h <;> contradiction
  rw [e, e2]
  have q1 : (id == 1) = false := by simpa using h1
  have q2 : (id == 2) = false := by simpa using h2
  have q3 : (id == 3) = false := by simpa using h3
  have q4 : (id == 4) = false := by simpa using h4
  have HR := Lib.hid (fun (tmps : Array Value) (B : Obj) => cv_result2 (w := (w.alloc (.cells cv0 28)).alloc B) (heap_alloc2_old w (.cells cv0 28) B) rfl Try.results12 tmps)
  clear h1 h2 h3 h4 e e2
  go_enter Try.func12, Try.ntmps12
  go_wp2
  exact bodyPost_ret (HR.out _ _ rfl) rfl ⟨rfl, hb2 _ _⟩
set_option maxRecDepth 8000 in
set_option maxHeartbeats 4000000 in
theorem scalarOk_i (id : Int) (s : ByteArray) (w : World) : Calls Try.prog 22 #[.int .i64 id, .string s] w fun e w' => e = .returned (.bool (scalB id s)) ∧ Below w.heap.size w w' := by
  have HK := Lib.hid (curveOf_i id)
  have HC := Lib.hid (cv_in id)
  have HO := Lib.hid (restOk_i s (cvRT id))
  unfold scalB
  generalize cvC id = C at *
  generalize cvNT id = tn at *
  generalize cvPT id = tp at *
  generalize cvRT id = tr at *
  generalize cvBT id = tb at *
  generalize cvKT id = tk at *
  generalize cvSz id = sz at *
  generalize restB s tr = rb at *
  cases hb : cvB id with
  | false =>
    rw [hb] at HK
    rw [Bool.false_and]
    clear hb
    go_enter Try.func22, Try.ntmps22
    go_wp2_with fail
    refine (HK.out _).mono ?_
    rintro e w1 ⟨rfl, b1⟩
    have V := Lib.hid (cv_var' w1 HC.out.size)
    have HB := Lib.hid (bt b1 V.out.b)
    clear b1 HK HO
    go_wp2_with (first | refine cv_store rfl (.tmp 5) (.tmp 10) rfl w1.heap.size cv0 C rfl rfl V.out.at0 rfl HC.out.size HC.out.one ?_)
    go_ret
    exact ⟨rfl, HB.out⟩
  | true =>
    rw [hb] at HK
    rw [Bool.true_and]
    clear hb
    go_enter Try.func22, Try.ntmps22
    go_wp2_with fail
    refine (HK.out _).mono ?_
    rintro e w1 ⟨rfl, b1⟩
    have V := Lib.hid (cv_var' w1 HC.out.size)
    have HB := Lib.hid (bt b1 V.out.b)
    obtain ⟨c0, c1, c2, c3, c4⟩ := HC.out.cells _ _ V.out.at1
    clear b1 HK
    go_wp2_with (first | refine cv_store rfl (.tmp 5) (.tmp 10) rfl w1.heap.size cv0 C rfl rfl V.out.at0 rfl HC.out.size HC.out.one ?_)
    refine (HO.out _).mono ?_
    rintro e w2 ⟨rfl, b2⟩
    have HB2 := Lib.hid (bt HB.out b2)
    clear b2 HB c0 c1 c2 c3 c4 V
    go_wp2
    go_ret
    exact ⟨rfl, HB2.out⟩
theorem spare_all (id : Int) : (0 ≤ cvSz id ∧ cvSz id ≤ 48) ∧ (0 ≤ bitsG (cvPT id) ∧ bitsG (cvPT id) ≤ 1280) ∧ spareN id = 8 * cvSz id - bitsG (cvPT id) := by
  cases hb : cvB id with
  | true => exact ⟨(curve_says hb).sz, (curve_says hb).bits, (curve_says hb).spareEq⟩
  | false =>
    rw [spare_no hb, show cvSz id = 0 from by4_no hb _ _ _ _ _, show cvPT id = ⟨#[]⟩ from by4_no hb _ _ _ _ _]
    exact ⟨by decide, by decide +kernel, by decide +kernel⟩
set_option maxRecDepth 8000 in
set_option maxHeartbeats 4000000 in
theorem spareBits_i (id : Int) (w : World) : Calls Try.prog 14 #[.int .i64 id] w fun e w' => e = .returned (.int .i64 (spareN id)) ∧ Below w.heap.size w w' := by
  have HK := Lib.hid (curveOf_i id)
  have HC := Lib.hid (cv_in id)
  have HO := Lib.hid (bitsOf_i (cvPT id))
  have F := spare_all id
  have HW := Lib.hid (spare_wrap F.1 F.2.1)
  rw [F.2.2]
  clear F
  generalize cvC id = C at *
  generalize cvNT id = tn at *
  generalize cvPT id = tp at *
  generalize cvRT id = tr at *
  generalize cvBT id = tb at *
  generalize cvKT id = tk at *
  generalize cvSz id = sz at *
  generalize cvB id = bb0 at *
  generalize bitsG tp = bb at *
  go_enter Try.func14, Try.ntmps14
  go_wp2_with fail
  refine (HK.out _).mono ?_
  rintro e w1 ⟨rfl, b1⟩
  have V := Lib.hid (cv_var' w1 HC.out.size)
  have HB := Lib.hid (bt b1 V.out.b)
  clear b1 HK
  go_wp2_with (first | refine cv_store rfl (.tmp 3) (.tmp 8) rfl w1.heap.size cv0 C rfl rfl V.out.at0 rfl HC.out.size HC.out.one ?_)
  have HV := Lib.hid ((Held.none _).cons V.out.at1).drew
  have HBd := Lib.hid (bt HB.out (bd7 _))
  clear V HB
  generalize (w1.alloc _).setRow _ _ = wv at *
  generalize w1.heap.size = g at *
  have FS := Lib.hid (show ∀ w', Held w' [(g, C, 28)] → (Instr.loadAt 3 (.pointer (some ⟨g, 6, none⟩))).run Try.prog w' = .ok (.int .i64 sz) w' from fun w' hw => int_load (HC.out.cells w' g (hw _ (.head _))).2.2.2.2)
  have FP := Lib.hid (show ∀ w', Held w' [(g, C, 28)] → (Instr.loadAt 9 (.pointer (some ⟨g, 1, none⟩))).run Try.prog w' = .ok (.string tp) w' from fun w' hw => (HC.out.strs (hw _ (.head _))).2.1)
  refine sq_go (S := fun w' => Held w' [(g, C, 28)]) [(true, 0), (true, 1), (true, 2), (true, 3), (true, 4), (false, 5), (true, 6), (true, 7)] (by kernel_rfl) (fun d _ _ _ _ h => by cases d <;> exact h) HV.out ?_
  refine sq_ps [(0, .pointer (some ⟨g, 6, none⟩))] (by kernel_rfl) ?_
  refine sq_ld (some 11) FS.out (by kernel_rfl) ?_
  refine sq_ps [(2, .int .i64 (IntKind.i64.wrap (8 * sz))), (3, .pointer (some ⟨g, 1, none⟩))] (by kernel_rfl) ?_
  refine sq_ld (some 14) FP.out (by kernel_rfl) ?_
  refine sq_c (some 15) Try.func39 (HO.out _) (by kernel_rfl) ?_
  rintro e w3 ⟨rfl, rfl⟩
  refine ⟨_, rfl, HV.out, ?_⟩
  refine sq_ps [(6, .int .i64 (IntKind.i64.wrap (IntKind.i64.wrap (8 * sz) - bb))), (7, .int .i64 (IntKind.i64.wrap (IntKind.i64.wrap (8 * sz) - bb)))] (by kernel_rfl) ?_
  refine sq_done ?_
  refine (by assumption : ∀ (a : Act) (w_1 : World), Code.wp _ Code.ret _ a w_1 → _) _ _ ?_
  refine wp_ret ?_
  exact ret_at (v := .int .i64 (IntKind.i64.wrap (IntKind.i64.wrap (8 * sz) - bb))) Try.results14 (by kernel_rfl) (by kernel_rfl) ⟨by rw [HW.out], HBd.out⟩
set_option maxRecDepth 8000 in
set_option maxHeartbeats 8000000 in
theorem curveNamed_i (s : ByteArray) (w : World) : Calls Try.prog 15 #[.string s] w fun e w' => e = .returned (.int .i64 (namedN s)) ∧ Below w.heap.size w w' := by
  have HC1 := Lib.hid (cv_in 1)
  have HC2 := Lib.hid (cv_in 2)
  have HC3 := Lib.hid (cv_in 3)
  have HC4 := Lib.hid (cv_in 4)
  have H1 := Lib.hid (curveOf_i 1)
  rw [show cvNT 1 = cvN1 from rfl] at HC1
  rw [show cvB 1 = true from rfl] at H1
  have H2 := Lib.hid (curveOf_i 2)
  rw [show cvNT 2 = cvN2 from rfl] at HC2
  rw [show cvB 2 = true from rfl] at H2
  have H3 := Lib.hid (curveOf_i 3)
  rw [show cvNT 3 = cvN3 from rfl] at HC3
  rw [show cvB 3 = true from rfl] at H3
  have H4 := Lib.hid (curveOf_i 4)
  rw [show cvNT 4 = cvN4 from rfl] at HC4
  rw [show cvB 4 = true from rfl] at H4
  have HB0 := Lib.hid (Below.refl w.heap.size w)
  unfold namedN sameT
  generalize cvN1 = n1 at *
  generalize cvC 1 = C1 at *
  generalize cvN2 = n2 at *
  generalize cvC 2 = C2 at *
  generalize cvN3 = n3 at *
  generalize cvC 3 = C3 at *
  generalize cvN4 = n4 at *
  generalize cvC 4 = C4 at *
  cases e1 : (n1.toList == s.toList) with
  | true =>
    rw [if_pos rfl]
    clear H2 HC2 H3 HC3 H4 HC4
    go_enter Try.func15, Try.ntmps15
    go_wp2
    refine wp_loop_rounds 6 ?_
    rw [rounds_succ]
    go_wp2_with fail
    refine (H1.out _).mono ?_
    rintro e w1 ⟨rfl, b1⟩
    have V := Lib.hid (cv_var' w1 HC1.out.size)
    have HB1 := Lib.hid (bt HB0.out (bt b1 V.out.b))
    obtain ⟨c0, _⟩ := HC1.out.cells _ _ V.out.at1
    clear b1 H1 HB0
    go_wp2_with (first | refine cv_store rfl (.tmp 4) (.tmp 13) rfl w1.heap.size cv0 C1 rfl rfl V.out.at0 rfl HC1.out.size HC1.out.one ?_)
    go_ret
    exact ⟨rfl, HB1.out⟩
  | false =>
  rw [if_neg (by decide)]
  cases e2 : (n2.toList == s.toList) with
  | true =>
    rw [if_pos rfl]
    clear H3 HC3 H4 HC4
    go_enter Try.func15, Try.ntmps15
    go_wp2
    refine wp_loop_rounds 6 ?_
    rw [rounds_succ]
    go_wp2_with fail
    refine (H1.out _).mono ?_
    rintro e w1 ⟨rfl, b1⟩
    have V := Lib.hid (cv_var' w1 HC1.out.size)
    have HB1 := Lib.hid (bt HB0.out (bt b1 V.out.b))
    obtain ⟨c0, _⟩ := HC1.out.cells _ _ V.out.at1
    clear b1 H1 HB0
    go_wp2_with (first | refine cv_store rfl (.tmp 4) (.tmp 13) rfl w1.heap.size cv0 C1 rfl rfl V.out.at0 rfl HC1.out.size HC1.out.one ?_)
    clear c0 V
    generalize (w1.alloc _).setRow _ _ = u1 at *
    generalize w1.heap.size = g1 at *
    rw [rounds_succ]
    go_wp2_with fail
    refine (H2.out _).mono ?_
    rintro e w2 ⟨rfl, b1⟩
    have V := Lib.hid (cv_var' w2 HC2.out.size)
    have HB2 := Lib.hid (bt HB1.out (bt b1 V.out.b))
    obtain ⟨c0, _⟩ := HC2.out.cells _ _ V.out.at1
    clear b1 H2 HB1
    go_wp2_with (first | refine cv_store rfl (.tmp 4) (.tmp 13) rfl w2.heap.size cv0 C2 rfl rfl V.out.at0 rfl HC2.out.size HC2.out.one ?_)
    go_ret
    exact ⟨rfl, HB2.out⟩
  | false =>
  rw [if_neg (by decide)]
  cases e3 : (n3.toList == s.toList) with
  | true =>
    rw [if_pos rfl]
    clear H4 HC4
    go_enter Try.func15, Try.ntmps15
    go_wp2
    refine wp_loop_rounds 6 ?_
    rw [rounds_succ]
    go_wp2_with fail
    refine (H1.out _).mono ?_
    rintro e w1 ⟨rfl, b1⟩
    have V := Lib.hid (cv_var' w1 HC1.out.size)
    have HB1 := Lib.hid (bt HB0.out (bt b1 V.out.b))
    obtain ⟨c0, _⟩ := HC1.out.cells _ _ V.out.at1
    clear b1 H1 HB0
    go_wp2_with (first | refine cv_store rfl (.tmp 4) (.tmp 13) rfl w1.heap.size cv0 C1 rfl rfl V.out.at0 rfl HC1.out.size HC1.out.one ?_)
    clear c0 V
    generalize (w1.alloc _).setRow _ _ = u1 at *
    generalize w1.heap.size = g1 at *
    rw [rounds_succ]
    go_wp2_with fail
    refine (H2.out _).mono ?_
    rintro e w2 ⟨rfl, b1⟩
    have V := Lib.hid (cv_var' w2 HC2.out.size)
    have HB2 := Lib.hid (bt HB1.out (bt b1 V.out.b))
    obtain ⟨c0, _⟩ := HC2.out.cells _ _ V.out.at1
    clear b1 H2 HB1
    go_wp2_with (first | refine cv_store rfl (.tmp 4) (.tmp 13) rfl w2.heap.size cv0 C2 rfl rfl V.out.at0 rfl HC2.out.size HC2.out.one ?_)
    clear c0 V
    generalize (w2.alloc _).setRow _ _ = u2 at *
    generalize w2.heap.size = g2 at *
    rw [rounds_succ]
    go_wp2_with fail
    refine (H3.out _).mono ?_
    rintro e w3 ⟨rfl, b1⟩
    have V := Lib.hid (cv_var' w3 HC3.out.size)
    have HB3 := Lib.hid (bt HB2.out (bt b1 V.out.b))
    obtain ⟨c0, _⟩ := HC3.out.cells _ _ V.out.at1
    clear b1 H3 HB2
    go_wp2_with (first | refine cv_store rfl (.tmp 4) (.tmp 13) rfl w3.heap.size cv0 C3 rfl rfl V.out.at0 rfl HC3.out.size HC3.out.one ?_)
    go_ret
    exact ⟨rfl, HB3.out⟩
  | false =>
  rw [if_neg (by decide)]
  cases e4 : (n4.toList == s.toList) with
  | true =>
    rw [if_pos rfl]
    go_enter Try.func15, Try.ntmps15
    go_wp2
    refine wp_loop_rounds 6 ?_
    rw [rounds_succ]
    go_wp2_with fail
    refine (H1.out _).mono ?_
    rintro e w1 ⟨rfl, b1⟩
    have V := Lib.hid (cv_var' w1 HC1.out.size)
    have HB1 := Lib.hid (bt HB0.out (bt b1 V.out.b))
    obtain ⟨c0, _⟩ := HC1.out.cells _ _ V.out.at1
    clear b1 H1 HB0
    go_wp2_with (first | refine cv_store rfl (.tmp 4) (.tmp 13) rfl w1.heap.size cv0 C1 rfl rfl V.out.at0 rfl HC1.out.size HC1.out.one ?_)
    clear c0 V
    generalize (w1.alloc _).setRow _ _ = u1 at *
    generalize w1.heap.size = g1 at *
    rw [rounds_succ]
    go_wp2_with fail
    refine (H2.out _).mono ?_
    rintro e w2 ⟨rfl, b1⟩
    have V := Lib.hid (cv_var' w2 HC2.out.size)
    have HB2 := Lib.hid (bt HB1.out (bt b1 V.out.b))
    obtain ⟨c0, _⟩ := HC2.out.cells _ _ V.out.at1
    clear b1 H2 HB1
    go_wp2_with (first | refine cv_store rfl (.tmp 4) (.tmp 13) rfl w2.heap.size cv0 C2 rfl rfl V.out.at0 rfl HC2.out.size HC2.out.one ?_)
    clear c0 V
    generalize (w2.alloc _).setRow _ _ = u2 at *
    generalize w2.heap.size = g2 at *
    rw [rounds_succ]
    go_wp2_with fail
    refine (H3.out _).mono ?_
    rintro e w3 ⟨rfl, b1⟩
    have V := Lib.hid (cv_var' w3 HC3.out.size)
    have HB3 := Lib.hid (bt HB2.out (bt b1 V.out.b))
    obtain ⟨c0, _⟩ := HC3.out.cells _ _ V.out.at1
    clear b1 H3 HB2
    go_wp2_with (first | refine cv_store rfl (.tmp 4) (.tmp 13) rfl w3.heap.size cv0 C3 rfl rfl V.out.at0 rfl HC3.out.size HC3.out.one ?_)
    clear c0 V
    generalize (w3.alloc _).setRow _ _ = u3 at *
    generalize w3.heap.size = g3 at *
    rw [rounds_succ]
    go_wp2_with fail
    refine (H4.out _).mono ?_
    rintro e w4 ⟨rfl, b1⟩
    have V := Lib.hid (cv_var' w4 HC4.out.size)
    have HB4 := Lib.hid (bt HB3.out (bt b1 V.out.b))
    obtain ⟨c0, _⟩ := HC4.out.cells _ _ V.out.at1
    clear b1 H4 HB3
    go_wp2_with (first | refine cv_store rfl (.tmp 4) (.tmp 13) rfl w4.heap.size cv0 C4 rfl rfl V.out.at0 rfl HC4.out.size HC4.out.one ?_)
    go_ret
    exact ⟨rfl, HB4.out⟩
  | false =>
  rw [if_neg (by decide)]
  go_enter Try.func15, Try.ntmps15
  go_wp2
  refine wp_loop_rounds 6 ?_
  rw [rounds_succ]
  go_wp2_with fail
  refine (H1.out _).mono ?_
  rintro e w1 ⟨rfl, b1⟩
  have V := Lib.hid (cv_var' w1 HC1.out.size)
  have HB1 := Lib.hid (bt HB0.out (bt b1 V.out.b))
  obtain ⟨c0, _⟩ := HC1.out.cells _ _ V.out.at1
  clear b1 H1 HB0
  go_wp2_with (first | refine cv_store rfl (.tmp 4) (.tmp 13) rfl w1.heap.size cv0 C1 rfl rfl V.out.at0 rfl HC1.out.size HC1.out.one ?_)
  clear c0 V
  generalize (w1.alloc _).setRow _ _ = u1 at *
  generalize w1.heap.size = g1 at *
  rw [rounds_succ]
  go_wp2_with fail
  refine (H2.out _).mono ?_
  rintro e w2 ⟨rfl, b1⟩
  have V := Lib.hid (cv_var' w2 HC2.out.size)
  have HB2 := Lib.hid (bt HB1.out (bt b1 V.out.b))
  obtain ⟨c0, _⟩ := HC2.out.cells _ _ V.out.at1
  clear b1 H2 HB1
  go_wp2_with (first | refine cv_store rfl (.tmp 4) (.tmp 13) rfl w2.heap.size cv0 C2 rfl rfl V.out.at0 rfl HC2.out.size HC2.out.one ?_)
  clear c0 V
  generalize (w2.alloc _).setRow _ _ = u2 at *
  generalize w2.heap.size = g2 at *
  rw [rounds_succ]
  go_wp2_with fail
  refine (H3.out _).mono ?_
  rintro e w3 ⟨rfl, b1⟩
  have V := Lib.hid (cv_var' w3 HC3.out.size)
  have HB3 := Lib.hid (bt HB2.out (bt b1 V.out.b))
  obtain ⟨c0, _⟩ := HC3.out.cells _ _ V.out.at1
  clear b1 H3 HB2
  go_wp2_with (first | refine cv_store rfl (.tmp 4) (.tmp 13) rfl w3.heap.size cv0 C3 rfl rfl V.out.at0 rfl HC3.out.size HC3.out.one ?_)
  clear c0 V
  generalize (w3.alloc _).setRow _ _ = u3 at *
  generalize w3.heap.size = g3 at *
  rw [rounds_succ]
  go_wp2_with fail
  refine (H4.out _).mono ?_
  rintro e w4 ⟨rfl, b1⟩
  have V := Lib.hid (cv_var' w4 HC4.out.size)
  have HB4 := Lib.hid (bt HB3.out (bt b1 V.out.b))
  obtain ⟨c0, _⟩ := HC4.out.cells _ _ V.out.at1
  clear b1 H4 HB3
  go_wp2_with (first | refine cv_store rfl (.tmp 4) (.tmp 13) rfl w4.heap.size cv0 C4 rfl rfl V.out.at0 rfl HC4.out.size HC4.out.one ?_)
  clear c0 V
  generalize (w4.alloc _).setRow _ _ = u4 at *
  generalize w4.heap.size = g4 at *
  rw [rounds_succ]
  go_wp2
  go_ret
  exact ⟨rfl, HB4.out⟩
set_option maxRecDepth 8000 in
set_option maxHeartbeats 4000000 in
theorem cubeAnd_i (id : Int) (x : ByteArray) (w : World) : Calls Try.prog 18 #[.int .i64 id, .string x] w fun e w' => e = .returned (.string (cubeG id x)) ∧ Below w.heap.size w w' := by
  have HK := Lib.hid (curveOf_i id)
  have HC := Lib.hid (cv_in id)
  have HO := Lib.hid (restOk_i x (cvPT id))
  cases hb : cvB id with
  | false =>
    rw [hb] at HK
    rw [cube_no (by rw [hb]; rfl)]
    clear hb HO
    generalize cvC id = C at *
    go_enter Try.func18, Try.ntmps18
    go_wp2_with fail
    refine (HK.out _).mono ?_
    rintro e w1 ⟨rfl, b1⟩
    have V := Lib.hid (cv_var' w1 HC.out.size)
    have HB := Lib.hid (bt b1 V.out.b)
    clear b1 HK
    go_wp2_with (first | refine cv_store rfl (.tmp 5) (.tmp 11) rfl w1.heap.size cv0 C rfl rfl V.out.at0 rfl HC.out.size HC.out.one ?_)
    go_ret
    exact ⟨rfl, HB.out⟩
  | true =>
  rw [hb] at HK
  cases hr : restB x (cvPT id) with
  | false =>
    rw [hr] at HO
    rw [cube_no (by rw [hb, hr]; rfl)]
    clear hb hr
    generalize cvC id = C at *
    generalize cvNT id = tn at *
    generalize cvRT id = tr at *
    generalize cvSz id = sz at *
    generalize cvPT id = tp at *
    generalize cvBT id = tb at *
    generalize cvKT id = tk at *
    go_enter Try.func18, Try.ntmps18
    go_wp2_with fail
    refine (HK.out _).mono ?_
    rintro e w1 ⟨rfl, b1⟩
    have V := Lib.hid (cv_var' w1 HC.out.size)
    have HB := Lib.hid (bt b1 V.out.b)
    obtain ⟨_, c1, _⟩ := HC.out.cells _ _ V.out.at1
    clear b1 HK
    go_wp2_with (first | refine cv_store rfl (.tmp 5) (.tmp 11) rfl w1.heap.size cv0 C rfl rfl V.out.at0 rfl HC.out.size HC.out.one ?_)
    refine (HO.out _).mono ?_
    rintro e w2 ⟨rfl, b2⟩
    have HB2 := Lib.hid (bt HB.out b2)
    clear b2 HB c1 V HO
    go_wp2
    go_ret
    exact ⟨rfl, HB2.out⟩
  | true =>
    rw [hr] at HO
    rw [show cubeG id x = addR (mulR (mulR x x (cvPT id)) x (cvPT id)) (cvBT id) (cvPT id) by unfold cubeG; rw [hb, hr]; rfl]
    clear hb hr
    generalize cvC id = C at *
    generalize cvNT id = tn at *
    generalize cvRT id = tr at *
    generalize cvSz id = sz at *
    generalize cvPT id = tp at *
    generalize cvBT id = tb at *
    generalize cvKT id = tk at *
    have M1 := Lib.hid (mulRest_i x x tp)
    generalize mulR x x tp = s1 at *
    have M2 := Lib.hid (mulRest_i s1 x tp)
    generalize mulR s1 x tp = s2 at *
    have M3 := Lib.hid (addRest_i s2 tb tp)
    generalize addR s2 tb tp = s3 at *
    go_enter Try.func18, Try.ntmps18
    go_wp2_with fail
    refine (HK.out _).mono ?_
    rintro e w1 ⟨rfl, b1⟩
    have V := Lib.hid (cv_var' w1 HC.out.size)
    have HB := Lib.hid (bt b1 V.out.b)
    obtain ⟨_, c1, _⟩ := HC.out.cells _ _ V.out.at1
    clear b1 HK
    go_wp2_with (first | refine cv_store rfl (.tmp 5) (.tmp 11) rfl w1.heap.size cv0 C rfl rfl V.out.at0 rfl HC.out.size HC.out.one ?_)
    have HV := Lib.hid ((Held.none _).cons V.out.at1)
    clear c1 V
    generalize (w1.alloc _).setRow _ _ = wv at *
    generalize w1.heap.size = g at *
    refine (HO.out _).mono ?_
    rintro e w2 ⟨rfl, b2⟩
    have HV2 := Lib.hid (HV.out.on b2)
    have HB2 := Lib.hid (bt HB.out b2)
    clear b2 HB HV HO
    obtain ⟨_, c1, _⟩ := HC.out.cells _ _ (HV2.out _ (.head _))
    go_wp2_with fail
    refine (M1.out _).mono ?_
    rintro e w3 ⟨rfl, b3⟩
    have HV3 := Lib.hid (HV2.out.on b3).drew
    have HB3 := Lib.hid (bt (bt HB2.out b3) (bd7 _))
    clear b3 c1 HV2 HB2 M1
    go_wp2_with fail
    have FP := Lib.hid (show ∀ w', Held w' [(g, C, 28)] → (Instr.loadAt 9 (.pointer (some ⟨g, 1, none⟩))).run Try.prog w' = .ok (.string tp) w' from fun w' hw => (HC.out.strs (hw _ (.head _))).2.1)
    have FB := Lib.hid (show ∀ w', Held w' [(g, C, 28)] → (Instr.loadAt 9 (.pointer (some ⟨g, 3, none⟩))).run Try.prog w' = .ok (.string tb) w' from fun w' hw => (HC.out.strs (hw _ (.head _))).2.2.2)
    refine sq_go (S := fun w' => Held w' [(g, C, 28)]) [(true, 0), (true, 1), (true, 2), (true, 3), (true, 5), (true, 6), (true, 7), (true, 8), (false, 4), (false, 9), (true, 10)] (by kernel_rfl) (fun d _ _ _ _ h => by cases d <;> exact h) HV3.out ?_
    refine sq_ps [(0, .string s1), (1, .string x), (2, .pointer (some ⟨g, 1, none⟩))] (by kernel_rfl) ?_
    refine sq_ld (some 30) FP.out (by kernel_rfl) ?_
    refine sq_ps [(5, .pointer (some ⟨g, 3, none⟩))] (by kernel_rfl) ?_
    refine sq_ld (some 33) FB.out (by kernel_rfl) ?_
    refine sq_ps [(7, .pointer (some ⟨g, 1, none⟩))] (by kernel_rfl) ?_
    refine sq_ld (some 35) FP.out (by kernel_rfl) ?_
    refine sq_c (some 31) Try.func41 (M2.out _) (by kernel_rfl) ?_
    rintro e w4 ⟨rfl, bw4⟩
    have HV4 := Lib.hid (HV3.out.on bw4)
    have HB4 := Lib.hid (bt HB3.out bw4)
    refine ⟨_, rfl, HV4.out, ?_⟩
    refine sq_c (some 36) Try.func42 (M3.out _) (by kernel_rfl) ?_
    rintro e w5 ⟨rfl, bw5⟩
    have HV5 := Lib.hid (HV4.out.on bw5)
    have HB5 := Lib.hid (bt HB4.out bw5)
    refine ⟨_, rfl, HV5.out, ?_⟩
    refine sq_ps [(10, .string s3)] (by kernel_rfl) ?_
    refine sq_done ?_
    refine (by assumption : ∀ (a : Act) (w_1 : World), Code.wp _ Code.ret _ a w_1 → _) _ _ ?_
    refine wp_ret ?_
    exact ret_at (v := .string s3) Try.results18 (by kernel_rfl) (by kernel_rfl) ⟨rfl, HB5.out⟩
set_option maxRecDepth 8000 in
set_option maxHeartbeats 4000000 in
theorem cubeAndPair_i (id : Int) (x : Pt) (w : World) : Calls Try.prog 20 #[.int .i64 id, .agg (aggT x)] w fun e w' => e = .returned (.agg (aggT (cube2G id x))) ∧ Below w.heap.size w w' := by
  have HK := Lib.hid (curveOf_i id)
  have HC := Lib.hid (cv_in id)
  have HO := Lib.hid (pairOk_i x (cvPT id))
  have HG0 := Lib.hid (begun2 (Held.none w) (aggT x) #[.string ⟨#[]⟩, .string ⟨#[]⟩] 26 26)
  have hge : w.heap.size ≤ w.heap.size + 1 := Nat.le_succ _
  have HGe := Lib.hid hge
  clear hge
  cases hb : cvB id with
  | false =>
    rw [hb] at HK
    rw [cube2_no (by rw [hb]; rfl)]
    clear hb HO
    generalize cvC id = C at *
    go_enter Try.func20, Try.ntmps20
    go_wp2_with fail
    generalize (w.alloc _).alloc _ = w0 at *
    refine (HK.out _).mono ?_
    rintro e w1 ⟨rfl, b1⟩
    have HG1 := Lib.hid (HG0.out.on b1)
    have V := Lib.hid (cv_var' w1 HC.out.size)
    have HG2 := Lib.hid ((HG1.out.new cv0 28).putAt HG1.out.b.size HG1.out.h.apart C)
    clear b1 HK HG0 HG1
    have HE := Lib.hid (HG2.out.put HGe.out (aggT noP))
    go_wp2_with (first | refine cv_store rfl (.tmp 5) (.tmp 11) rfl w1.heap.size cv0 C rfl rfl V.out.at0 rfl HC.out.size HC.out.one ?_ | refine store_p rfl (.tmp 4) (.tmp 22) rfl (w.heap.size + 1) _ noP rfl rfl HG2.out.out rfl ?_)
    exact bodyPost_ret (results_cell_row Try.results20 _ _ (w.heap.size + 1) _ _ _ _ rfl HE.out.out Try.underlying26 rfl Try.infoP) rfl ⟨rfl, HE.out.b⟩
  | true =>
  rw [hb] at HK
  cases hr : pairB x (cvPT id) with
  | false =>
    rw [hr] at HO
    rw [cube2_no (by rw [hb, hr]; rfl)]
    clear hb hr
    generalize cvC id = C at *
    generalize cvNT id = tn at *
    generalize cvRT id = tr at *
    generalize cvSz id = sz at *
    generalize cvPT id = tp at *
    generalize cvBT id = tb at *
    generalize cvKT id = tk at *
    go_enter Try.func20, Try.ntmps20
    go_wp2_with fail
    generalize (w.alloc _).alloc _ = w0 at *
    refine (HK.out _).mono ?_
    rintro e w1 ⟨rfl, b1⟩
    have HG1 := Lib.hid (HG0.out.on b1)
    have V := Lib.hid (cv_var' w1 HC.out.size)
    have HG2 := Lib.hid ((HG1.out.new cv0 28).putAt HG1.out.b.size HG1.out.h.apart C)
    clear b1 HK HG0 HG1
    obtain ⟨_, c1, _⟩ := HC.out.cells _ _ V.out.at1
    obtain ⟨d1, d2⟩ := agg_cells (show _ = some (Obj.cells (aggT x) 26 (0, 0)) from HG2.out.h (w.heap.size, aggT x, 26) (.tail _ (.head _)))
    go_wp2_with (first | refine cv_store rfl (.tmp 5) (.tmp 11) rfl w1.heap.size cv0 C rfl rfl V.out.at0 rfl HC.out.size HC.out.one ?_)
    generalize (w1.alloc _).setRow _ _ = wv at *
    refine (HO.out _).mono ?_
    rintro e w2 ⟨rfl, b2⟩
    have HG3 := Lib.hid (HG2.out.on b2)
    have HE := Lib.hid (HG3.out.put HGe.out (aggT noP))
    clear b2 HG2 c1 d1 d2 V HO
    go_wp2_with (first | refine store_p rfl (.tmp 4) (.tmp 22) rfl (w.heap.size + 1) _ noP rfl rfl HG3.out.out rfl ?_)
    exact bodyPost_ret (results_cell_row Try.results20 _ _ (w.heap.size + 1) _ _ _ _ rfl HE.out.out Try.underlying26 rfl Try.infoP) rfl ⟨rfl, HE.out.b⟩
  | true =>
    rw [hr] at HO
    rw [show cube2G id x = addPG (mulPG (mulPG x x (cvPT id)) x (cvPT id)) (cvKT id) (cvPT id) by unfold cube2G; rw [hb, hr]; rfl]
    clear hb hr
    generalize cvC id = C at *
    generalize cvNT id = tn at *
    generalize cvRT id = tr at *
    generalize cvSz id = sz at *
    generalize cvPT id = tp at *
    generalize cvBT id = tb at *
    generalize cvKT id = tk at *
    have M1 := Lib.hid (mulPair_i x x tp)
    generalize mulPG x x tp = s1 at *
    have M2 := Lib.hid (mulPair_i s1 x tp)
    generalize mulPG s1 x tp = s2 at *
    have M3 := Lib.hid (addPair_i s2 tk tp)
    generalize addPG s2 tk tp = s3 at *
    go_enter Try.func20, Try.ntmps20
    go_wp2_with fail
    generalize (w.alloc _).alloc _ = w0 at *
    refine (HK.out _).mono ?_
    rintro e w1 ⟨rfl, b1⟩
    have HG1 := Lib.hid (HG0.out.on b1)
    have V := Lib.hid (cv_var' w1 HC.out.size)
    have HG2 := Lib.hid ((HG1.out.new cv0 28).putAt HG1.out.b.size HG1.out.h.apart C)
    clear b1 HK HG0 HG1
    obtain ⟨_, c1, _⟩ := HC.out.cells _ _ V.out.at1
    obtain ⟨d1, d2⟩ := agg_cells (show _ = some (Obj.cells (aggT x) 26 (0, 0)) from HG2.out.h (w.heap.size, aggT x, 26) (.tail _ (.head _)))
    go_wp2_with (first | refine cv_store rfl (.tmp 5) (.tmp 11) rfl w1.heap.size cv0 C rfl rfl V.out.at0 rfl HC.out.size HC.out.one ?_)
    clear c1 d1 d2 V
    generalize (w1.alloc _).setRow _ _ = wv at *
    generalize w1.heap.size = g at *
    refine (HO.out _).mono ?_
    rintro e w2 ⟨rfl, b2⟩
    have HG3 := Lib.hid (HG2.out.on b2)
    clear b2 HG2 HO
    have HX3 := Lib.hid (show _ = some (Obj.cells (aggT x) 26 (0, 0)) from HG3.out.h (w.heap.size, aggT x, 26) (.tail _ (.head _)))
    obtain ⟨_, c1, _⟩ := HC.out.cells _ _ (show _ = some (Obj.cells C 28 (0, 0)) from HG3.out.h (g, C, 28) (.head _))
    go_wp2_with (first | refine load_p rfl (.tmp 3) rfl w.heap.size x rfl HX3.out ?_)
    refine (M1.out _).mono ?_
    rintro e w3 ⟨rfl, b3⟩
    have HG4 := Lib.hid (HG3.out.on b3)
    have HN4 := Lib.hid (heap_alloc_new w3 (.cells #[.string ⟨#[]⟩, .string ⟨#[]⟩] 26))
    have HG5 := Lib.hid ((HG4.out.new #[.string ⟨#[]⟩, .string ⟨#[]⟩] 26).putAt HG4.out.b.size HG4.out.h.apart (aggT s1)).drew
    clear b3 c1 HX3 HG3 HG4 M1
    go_wp2_with (first | refine store_p rfl (.tmp 7) (.tmp 27) rfl w3.heap.size _ s1 rfl rfl HN4.out rfl ?_)
    clear HN4
    generalize (w3.alloc _).setRow _ _ = w4 at *
    generalize w3.heap.size = gs at *
    have HS5 := Lib.hid HG5.out.h
    have FS := Lib.hid (show ∀ w', Held w' ((gs, aggT s1, 26) :: (g, C, 28) :: (w.heap.size, aggT x, 26) :: []) → (Instr.loadAt 26 (.pointer (some ⟨gs, 0, none⟩))).run Try.prog w' = .ok (.agg (aggT s1)) w' from fun w' hw => pair_load (show _ = some (Obj.cells (aggT s1) 26 (0, 0)) from hw (gs, aggT s1, 26) (by simp)))
    have FP := Lib.hid (show ∀ w', Held w' ((gs, aggT s1, 26) :: (g, C, 28) :: (w.heap.size, aggT x, 26) :: []) → (Instr.loadAt 9 (.pointer (some ⟨g, 1, none⟩))).run Try.prog w' = .ok (.string tp) w' from fun w' hw => (HC.out.strs (show _ = some (Obj.cells C 28 (0, 0)) from hw (g, C, 28) (by simp))).2.1)
    have FK := Lib.hid (show ∀ w', Held w' ((gs, aggT s1, 26) :: (g, C, 28) :: (w.heap.size, aggT x, 26) :: []) → (Instr.loadAt 26 (.pointer (some ⟨g, 4, none⟩))).run Try.prog w' = .ok (.agg (aggT tk)) w' from fun w' hw => HC.out.pair w' g (show _ = some (Obj.cells C 28 (0, 0)) from hw (g, C, 28) (by simp)))
    have FX := Lib.hid (show ∀ w', Held w' ((gs, aggT s1, 26) :: (g, C, 28) :: (w.heap.size, aggT x, 26) :: []) → (Instr.loadAt 26 (.pointer (some ⟨w.heap.size, 0, none⟩))).run Try.prog w' = .ok (.agg (aggT x)) w' from fun w' hw => pair_load (show _ = some (Obj.cells (aggT x) 26 (0, 0)) from hw (w.heap.size, aggT x, 26) (by simp)))
    refine sq_go (S := fun w' => Held w' ((gs, aggT s1, 26) :: (g, C, 28) :: (w.heap.size, aggT x, 26) :: [])) [(true, 0), (true, 1), (true, 2), (true, 3), (true, 5), (true, 6), (true, 7), (true, 8), (false, 4), (false, 9), (false, 10)] (by kernel_rfl) (fun d _ _ _ _ h => by cases d <;> exact h) HS5.out ?_
    refine sq_ld (some 28) FS.out (by kernel_rfl) ?_
    refine sq_ld (some 29) FX.out (by kernel_rfl) ?_
    refine sq_ps [(2, .pointer (some ⟨g, 1, none⟩))] (by kernel_rfl) ?_
    refine sq_ld (some 31) FP.out (by kernel_rfl) ?_
    refine sq_ps [(5, .pointer (some ⟨g, 4, none⟩))] (by kernel_rfl) ?_
    refine sq_ld (some 34) FK.out (by kernel_rfl) ?_
    refine sq_ps [(7, .pointer (some ⟨g, 1, none⟩))] (by kernel_rfl) ?_
    refine sq_ld (some 36) FP.out (by kernel_rfl) ?_
    refine sq_c (some 32) Try.func48 (M2.out _) (by kernel_rfl) ?_
    rintro e w5 ⟨rfl, bw5⟩
    have HG6 := Lib.hid (HG5.out.on bw5)
    have HS6 := Lib.hid HG6.out.h
    refine ⟨_, rfl, HS6.out, ?_⟩
    refine sq_c (some 37) Try.func49 (M3.out _) (by kernel_rfl) ?_
    rintro e w6 ⟨rfl, bw6⟩
    have HG7 := Lib.hid (HG6.out.on bw6)
    have HS7 := Lib.hid HG7.out.h
    refine ⟨_, rfl, HS7.out, ?_⟩
    have HE := Lib.hid (HG7.out.put HGe.out (aggT s3))
    refine sq_st 26 (w.heap.size + 1) (aggT s3) HG7.out.out Try.infoP rfl (by kernel_rfl) (HS7.out.setRow HG7.out.ne) (by kernel_rfl) ?_
    refine sq_done ?_
    refine (by assumption : ∀ (a : Act) (w_1 : World), Code.wp _ Code.ret _ a w_1 → _) _ _ ?_
    refine wp_ret ?_
    exact bodyPost_ret (results_cell_row Try.results20 _ _ (w.heap.size + 1) _ _ _ _ (by kernel_rfl) HE.out.out Try.underlying26 rfl Try.infoP) (by kernel_rfl) ⟨rfl, HE.out.b⟩
end Go.Proofs.Ytmbhodhghgdbhaa

import Derived.Test.YtkmmlfocidfghaaGreatZSp
import Derived.Test.YtkmmlfocidfghaaGreatYImpl
namespace Go.Proofs.YtkmmlfocidfghaaGreat
open Go.RowKit
set_option maxRecDepth 8000 in
theorem yields_eqPt {ops : Array Oper} {S : World → Prop} {o : Oper} {a : Act} (hw : Region.wanted o (yielded ops a.tmps) = true) (x y : Operand) (ho : o.op = .binOp .eql 25 x y 25) (s t : Tp) (b : Bool) (hb : decide (s = t) = b)
    (hx : a.eval x = .agg (tpT s)) (hy : a.eval y = .agg (tpT t)) : YieldsIf Tryz.prog ops S o (.bool b) a := by
  refine .inl ⟨hw, fun w _ => ?_⟩
  unfold tpT at hx hy
  unfold execOp
  simp only [ho, hx, hy]
  go_simp
  subst hb
  by_cases h0 : s.1 = t.1
  · by_cases h1 : s.2.1 = t.2.1
    · by_cases h2 : s.2.2 = t.2.2
      · have e : s = t := Prod.ext h0 (Prod.ext h1 h2)
        subst e
        simp
      · have e : s ≠ t := fun e => h2 (by rw [e])
        have k1 : ¬ s.2.2.toList = t.2.2.toList := fun q => h2 (bl_iff.1 q)
        simp [h0, h1, k1, e]
    · have e : s ≠ t := fun e => h1 (by rw [e])
      have k1 : ¬ s.2.1.toList = t.2.1.toList := fun q => h1 (bl_iff.1 q)
      simp [h0, k1, e]
  · have e : s ≠ t := fun e => h0 (by rw [e])
    simp [h0, e]
theorem yields_eqB {ops : Array Oper} {S : World → Prop} {o : Oper} {a : Act} (hw : Region.wanted o (yielded ops a.tmps) = true) (x y : Operand) (ho : o.op = .binOp .eql 9 x y 9) (s t : ByteArray) (b : Bool) (hb : decide (s = t) = b)
    (hx : a.eval x = .string s) (hy : a.eval y = .string t) : YieldsIf Tryz.prog ops S o (.bool b) a := by
  refine .inl ⟨hw, fun w _ => ?_⟩
  unfold execOp
  simp only [ho, hx, hy]
  go_simp
  subst hb
  by_cases h0 : s = t
  · subst h0
    simp
  · have k1 : ¬ s.toList = t.toList := fun q => h0 (bl_iff.1 q)
    simp [h0, k1]
theorem built_ptz : Tryz.prog.built 25 [(0, .bool true)] = some (tpT zeroT) := by
  cases hq : structParts Tryz.prog 25 with
  | none => have e := Tryz.partsPoint; rw [hq] at e; cases e
  | some q =>
    obtain ⟨zz, pl⟩ := q
    have e := Tryz.partsPoint
    rw [hq] at e
    simp only [Option.map_some, Option.some.injEq, Prod.mk.injEq] at e
    obtain ⟨e1, rfl⟩ := e
    rw [built_parts hq]
    have ez : zz.cells = #[] ++ #[.bool false] ++ #[.string ⟨#[]⟩, .string ⟨#[]⟩] := Array.ext' (by rw [e1]; rfl)
    rw [ez, fill_step (R := #[.bool true]) (off := 0) (n := 1) rfl rfl rfl rfl rfl]
    rfl
theorem built_pt0 : Tryz.prog.built 25 [] = some (tpT noT) := by
  cases hq : structParts Tryz.prog 25 with
  | none => have e := Tryz.partsPoint; rw [hq] at e; cases e
  | some q =>
    obtain ⟨zz, pl⟩ := q
    have e := Tryz.partsPoint
    rw [hq] at e
    simp only [Option.map_some, Option.some.injEq, Prod.mk.injEq] at e
    obtain ⟨e1, rfl⟩ := e
    rw [built_parts hq]
    have ez : zz.cells = tpT noT := Array.ext' (by rw [e1]; rfl)
    rw [ez]
    rfl
theorem built_pt3 (z : Bool) (x y : ByteArray) : Tryz.prog.built 25 [(0, .bool z), (1, .string x), (2, .string y)] = some (tpT (z, x, y)) := by
  cases hq : structParts Tryz.prog 25 with
  | none => have e := Tryz.partsPoint; rw [hq] at e; cases e
  | some q =>
    obtain ⟨zz, pl⟩ := q
    have e := Tryz.partsPoint
    rw [hq] at e
    simp only [Option.map_some, Option.some.injEq, Prod.mk.injEq] at e
    obtain ⟨e1, rfl⟩ := e
    rw [built_parts hq]
    have ez : zz.cells = #[] ++ #[.bool false] ++ #[.string ⟨#[]⟩, .string ⟨#[]⟩] := Array.ext' (by rw [e1]; rfl)
    rw [ez, fill_step (R := #[.bool z]) (off := 0) (n := 1) rfl rfl rfl rfl rfl]
    have e2 : (#[] ++ #[.bool z] ++ #[.string ⟨#[]⟩, .string ⟨#[]⟩] : Array Value) = #[.bool z] ++ #[.string ⟨#[]⟩] ++ #[.string ⟨#[]⟩] := rfl
    rw [e2, fill_step (R := #[.string x]) (off := 1) (n := 1) rfl rfl rfl rfl rfl]
    have e3 : (#[.bool z] ++ #[.string x] ++ #[.string ⟨#[]⟩] : Array Value) = (#[.bool z] ++ #[.string x]) ++ #[.string ⟨#[]⟩] ++ #[] := rfl
    rw [e3, fill_step (R := #[.string y]) (off := 2) (n := 1) rfl rfl rfl rfl rfl]
    rfl
/-- Whether a point is right, asked as impl does. -/
def okI (id : Int) (q : Tp) : Bool := if q.1 then cvB id && decide (q = zeroT) else restB q.2.1 (cvPT id) && (restB q.2.2 (cvPT id) && decide (mulR q.2.2 q.2.2 (cvPT id) = cubeG id q.2.1))
theorem on_same {id : Int} {x y : ByteArray} (hc : cvB id = true) (hx : restB x (cvPT id) = true) (hy : restB y (cvPT id) = true) : onB id x y = decide (mulR y y (cvPT id) = cubeG id x) := by
  by_cases e : mulR y y (cvPT id) = cubeG id x
  · rw [on_root hc hx hy e, decide_eq_true e]
  · rw [decide_eq_false e]
    cases ho : onB id x y with
    | false => rfl
    | true =>
      exfalso
      apply e
      have F := curve_fit hc
      have h0 := mod_pos F.mp
      unfold onB at ho
      have k := of_decide_eq_true ho
      rw [mul_bare h0, right_bare h0] at k
      unfold cubeG
      rw [hc, hx, Bool.true_and, if_pos rfl, cube_num F.mp hx F.b, mul_num F.mp hy hy]
      exact congrArg gS (congrArg Prod.fst k)
theorem rest_none (x : ByteArray) : restB x ⟨#[]⟩ = false := by
  unfold restB
  have e : gV ⟨#[]⟩ = 0 := rfl
  rw [e, decide_eq_false (Nat.not_lt_zero _), Bool.and_false, Bool.and_false]
theorem okI_eq (id : Int) (q : Tp) : okI id q = pointB id q := by
  obtain ⟨z, x, y⟩ := q
  unfold okI pointB
  cases z with
  | true =>
    simp only [if_true]
    congr 1
    cases h1 : x.toList.isEmpty with
    | false => exact decide_eq_false (fun e => by
        have : x = ⟨#[]⟩ := congrArg (fun q : Tp => q.2.1) e
        subst this
        revert h1; decide +kernel)
    | true =>
      cases h2 : y.toList.isEmpty with
      | false => exact decide_eq_false (fun e => by
          have : y = ⟨#[]⟩ := congrArg (fun q : Tp => q.2.2) e
          subst this
          revert h2; decide +kernel)
      | true => exact decide_eq_true (by rw [nil_text h1, nil_text h2]; rfl)
  | false =>
    simp only [Bool.false_eq_true, if_false]
    cases hc : cvB id with
    | false => rw [cvPT_no hc, rest_none, Bool.false_and, Bool.false_and]
    | true =>
      rw [Bool.true_and]
      cases hx : restB x (cvPT id) with
      | false => rfl
      | true =>
        cases hy : restB y (cvPT id) with
        | false => rfl
        | true => rw [on_same hc hx hy]
set_option maxRecDepth 8000 in
set_option maxHeartbeats 4000000 in
theorem pointOk_i (id : Int) (q : Tp) (w : World) : Calls Tryz.prog 10 #[.int .i64 id, .agg (tpT q)] w fun e w' => e = .returned (.bool (pointB id q)) ∧ Below w.heap.size w w' := by
  rw [← okI_eq]
  obtain ⟨z, x, y⟩ := q
  have HK := Lib.hid (curveOf_i id)
  have HC := Lib.hid (cv_in id)
  have HS0 := Lib.hid (stand1 w (tpT (z, x, y)) 25)
  unfold okI
  cases z with
  | true =>
    rw [if_pos rfl]
    obtain ⟨b, hb⟩ : ∃ b, decide (((true, x, y) : Tp) = zeroT) = b := ⟨_, rfl⟩
    have HD := Lib.hid hb
    rw [hb]
    clear hb
    cases hf : cvB id with
    | false =>
      rw [hf] at HK
      rw [Bool.false_and]
      clear hf
      generalize cvC id = C at *
      generalize cvPT id = tp at *
      go_enter Tryz.func10, Tryz.ntmps10
      go_wp2_with fail
      generalize w.alloc _ = w0 at *
      refine (HK.out _).mono ?_
      rintro e w1 ⟨rfl, b1⟩
      have V := Lib.hid (cv_var' w1 HC.out.size)
      have HG := Lib.hid (((HS0.out.on b1).new cv0 43).putAt (HS0.out.on b1).b.size (HS0.out.on b1).h.apart C)
      clear b1 HK HS0
      obtain ⟨d0, d1, d2⟩ := tp_cells (show _ = some (Obj.cells (tpT (true, x, y)) 25 (0, 0)) from HG.out.h _ (.tail _ (.head _)))
      go_upto_region 3 with (first | refine cv_store rfl (.tmp 5) (.tmp 10) rfl w1.heap.size cv0 C rfl rfl V.out.at0 rfl HC.out.size HC.out.one ?_)
      clear d0 d1 d2 V
      generalize (w1.alloc _).setRow _ _ = wv at *
      generalize w1.heap.size = g at *
      have HS := Lib.hid HG.out.h
      refine wp_region_line (S := fun w' => Held w' [(g, C, 43), (w.heap.size, tpT (true, x, y), 25)]) [(true, 0), (true, 1), (true, 2), (true, 3), (true, 4), (true, 5), (true, 6)] (by kernel_rfl) (by kernel_rfl) HS.out ?_
      refine SQ.out ?_
      refine g_ps [(0, .bool false), (1, .bool false)] (by kernel_rfl) ?_
      refine g_no [2, 3, 4] (by kernel_rfl) ?_
      refine g_ps [(5, .bool false), (6, .bool false)] (by kernel_rfl) ?_
      refine g_done ?_
      refine (by assumption : ∀ (a : Act) (w_1 : World), Code.wp _ Code.ret _ a w_1 → _) _ _ ?_
      refine wp_ret ?_
      try refine then_ret ?_
      exact ret_at (v := .bool false) Tryz.results10 (by kernel_rfl) (by kernel_rfl) ⟨rfl, HG.out.b⟩
    | true =>
      rw [hf] at HK
      rw [Bool.true_and]
      clear hf
      generalize cvC id = C at *
      generalize cvPT id = tp at *
      go_enter Tryz.func10, Tryz.ntmps10
      go_wp2_with fail
      generalize w.alloc _ = w0 at *
      refine (HK.out _).mono ?_
      rintro e w1 ⟨rfl, b1⟩
      have V := Lib.hid (cv_var' w1 HC.out.size)
      have HG := Lib.hid (((HS0.out.on b1).new cv0 43).putAt (HS0.out.on b1).b.size (HS0.out.on b1).h.apart C)
      clear b1 HK HS0
      obtain ⟨d0, d1, d2⟩ := tp_cells (show _ = some (Obj.cells (tpT (true, x, y)) 25 (0, 0)) from HG.out.h _ (.tail _ (.head _)))
      go_upto_region 3 with (first | refine cv_store rfl (.tmp 5) (.tmp 10) rfl w1.heap.size cv0 C rfl rfl V.out.at0 rfl HC.out.size HC.out.one ?_)
      clear d0 d1 d2 V
      generalize (w1.alloc _).setRow _ _ = wv at *
      generalize w1.heap.size = g at *
      have HS := Lib.hid HG.out.h
      refine wp_region_line (S := fun w' => Held w' [(g, C, 43), (w.heap.size, tpT (true, x, y), 25)]) [(true, 0), (true, 1), (true, 2), (true, 3), (true, 4), (true, 5), (true, 6)] (by kernel_rfl) (by kernel_rfl) HS.out ?_
      refine SQ.out ?_
      refine g_ps [(0, .bool true), (1, .bool true)] (by kernel_rfl) ?_
      refine g_ld (some 16) (ld_pt (.tail _ (.head _)) (by kernel_rfl)) (by kernel_rfl) ?_
      refine g_pure (some 17) (.agg (tpT zeroT)) (by kernel_rfl) (wanted_by (g := 1) (b := true) (d := 15) (by kernel_rfl) (by kernel_rfl) (by kernel_rfl) (by kernel_rfl)) (held_build 25 #[(0, (.const (.bool true)))] (by kernel_rfl) _ (by kernel_rfl) _ built_ptz) ?_
      refine g_take (some 18) (.bool b) (by kernel_rfl) (yields_eqPt (wanted_by (g := 1) (b := true) (d := 15) (by kernel_rfl) (by kernel_rfl) (by kernel_rfl) (by kernel_rfl)) (.tmp 16) (.tmp 17) (by kernel_rfl) (true, x, y) zeroT b HD.out (by kernel_rfl) (by kernel_rfl)) ?_
      refine g_ps [(5, .bool b), (6, .bool b)] (by kernel_rfl) ?_
      refine g_done ?_
      refine (by assumption : ∀ (a : Act) (w_1 : World), Code.wp _ Code.ret _ a w_1 → _) _ _ ?_
      refine wp_ret ?_
      try refine then_ret ?_
      exact ret_at (v := .bool b) Tryz.results10 (by kernel_rfl) (by kernel_rfl) ⟨rfl, HG.out.b⟩
  | false =>
    rw [if_neg Bool.false_ne_true]
    have RX := Lib.hid (restOk_i x (cvPT id))
    have RY := Lib.hid (restOk_i y (cvPT id))
    have HM := Lib.hid (mulRest_i y y (cvPT id))
    have HU := Lib.hid (cubeAnd_i id x)
    obtain ⟨bo, hb⟩ : ∃ b, decide (mulR y y (cvPT id) = cubeG id x) = b := ⟨_, rfl⟩
    have HD := Lib.hid hb
    simp only [hb]
    clear hb
    generalize mulR y y (cvPT id) = m at *
    generalize cubeG id x = u at *
    generalize cvB id = found at *
    cases hx : restB x (cvPT id) with
    | false =>
      rw [hx] at RX
      rw [Bool.false_and]
      clear hx
      generalize cvC id = C at *
      generalize cvPT id = tp at *
      go_enter Tryz.func10, Tryz.ntmps10
      go_wp2_with fail
      generalize w.alloc _ = w0 at *
      refine (HK.out _).mono ?_
      rintro e w1 ⟨rfl, b1⟩
      have V := Lib.hid (cv_var' w1 HC.out.size)
      have HG := Lib.hid (((HS0.out.on b1).new cv0 43).putAt (HS0.out.on b1).b.size (HS0.out.on b1).h.apart C)
      clear b1 HK HS0
      obtain ⟨d0, d1, d2⟩ := tp_cells (show _ = some (Obj.cells (tpT (false, x, y)) 25 (0, 0)) from HG.out.h _ (.tail _ (.head _)))
      go_upto_region 4 with (first | refine cv_store rfl (.tmp 5) (.tmp 10) rfl w1.heap.size cv0 C rfl rfl V.out.at0 rfl HC.out.size HC.out.one ?_)
      clear d0 d1 d2 V
      generalize (w1.alloc _).setRow _ _ = wv at *
      generalize w1.heap.size = g at *
      have HS := Lib.hid HG.out.h
      replace HG := Lib.hid HG.out.drew
      replace HS := Lib.hid HG.out.h
      refine sq_go (S := fun w' => Held w' [(g, C, 43), (w.heap.size, tpT (false, x, y), 25)]) [(true, 0), (true, 1), (true, 2), (true, 3), (false, 4), (true, 5), (true, 6), (true, 7), (true, 8), (true, 9), (true, 10), (true, 11), (true, 12), (true, 13), (true, 14), (true, 15), (true, 16), (true, 17), (true, 18), (true, 19), (true, 20), (true, 21), (true, 22), (true, 23), (true, 24), (true, 25), (true, 26)] (by kernel_rfl) (fun d _ _ _ _ h => by cases d <;> exact h) HS.out ?_
      refine SQ.out ?_
      refine g_ps [(0, .pointer (some ⟨w.heap.size, 1, none⟩))] (by kernel_rfl) ?_
      refine g_ld (some 21) (ld_s (.tail _ (.head _)) (k := 1) rfl) (by kernel_rfl) ?_
      refine g_ps [(2, .pointer (some ⟨g, 1, none⟩))] (by kernel_rfl) ?_
      refine g_ld (some 23) (fun w' hw => (HC.out.strs (hw _ (.head _))).2.1) (by kernel_rfl) ?_
      refine g_c (some 24) Tryz.func35 (RX.out _) (by kernel_rfl) ?_
      rintro e v1 ⟨rfl, bw⟩
      replace HG := Lib.hid (HG.out.on bw)
      have HS := Lib.hid (HG.out.h)
      clear bw
      refine ⟨_, rfl, HS.out, ?_⟩
      refine g_ps [(5, .bool false)] (by kernel_rfl) ?_
      refine g_no [6, 7, 8, 9, 10] (by kernel_rfl) ?_
      refine g_ps [(11, .bool false), (12, .bool false)] (by kernel_rfl) ?_
      refine g_no [13, 14, 15, 16, 17, 18, 19, 20, 21, 22, 23, 24] (by kernel_rfl) ?_
      refine g_ps [(25, .bool false), (26, .bool false)] (by kernel_rfl) ?_
      refine g_done ?_
      refine (by assumption : ∀ (a : Act) (w_1 : World), Code.wp _ Code.ret _ a w_1 → _) _ _ ?_
      refine wp_ret ?_
      exact ret_at (v := .bool false) Tryz.results10 (by kernel_rfl) (by kernel_rfl) ⟨rfl, HG.out.b⟩
    | true =>
      rw [hx] at RX
      rw [Bool.true_and]
      cases hy : restB y (cvPT id) with
      | false =>
        rw [hy] at RY
        rw [Bool.false_and]
        clear hx hy
        generalize cvC id = C at *
        generalize cvPT id = tp at *
        go_enter Tryz.func10, Tryz.ntmps10
        go_wp2_with fail
        generalize w.alloc _ = w0 at *
        refine (HK.out _).mono ?_
        rintro e w1 ⟨rfl, b1⟩
        have V := Lib.hid (cv_var' w1 HC.out.size)
        have HG := Lib.hid (((HS0.out.on b1).new cv0 43).putAt (HS0.out.on b1).b.size (HS0.out.on b1).h.apart C)
        clear b1 HK HS0
        obtain ⟨d0, d1, d2⟩ := tp_cells (show _ = some (Obj.cells (tpT (false, x, y)) 25 (0, 0)) from HG.out.h _ (.tail _ (.head _)))
        go_upto_region 4 with (first | refine cv_store rfl (.tmp 5) (.tmp 10) rfl w1.heap.size cv0 C rfl rfl V.out.at0 rfl HC.out.size HC.out.one ?_)
        clear d0 d1 d2 V
        generalize (w1.alloc _).setRow _ _ = wv at *
        generalize w1.heap.size = g at *
        have HS := Lib.hid HG.out.h
        replace HG := Lib.hid HG.out.drew
        replace HS := Lib.hid HG.out.h
        refine sq_go (S := fun w' => Held w' [(g, C, 43), (w.heap.size, tpT (false, x, y), 25)]) [(true, 0), (true, 1), (true, 2), (true, 3), (false, 4), (true, 5), (true, 6), (true, 7), (true, 8), (true, 9), (false, 10), (true, 11), (true, 12), (true, 13), (true, 14), (true, 15), (true, 16), (true, 17), (true, 18), (true, 19), (true, 20), (true, 21), (true, 22), (true, 23), (true, 24), (true, 25), (true, 26)] (by kernel_rfl) (fun d _ _ _ _ h => by cases d <;> exact h) HS.out ?_
        refine SQ.out ?_
        refine g_ps [(0, .pointer (some ⟨w.heap.size, 1, none⟩))] (by kernel_rfl) ?_
        refine g_ld (some 21) (ld_s (.tail _ (.head _)) (k := 1) rfl) (by kernel_rfl) ?_
        refine g_ps [(2, .pointer (some ⟨g, 1, none⟩))] (by kernel_rfl) ?_
        refine g_ld (some 23) (fun w' hw => (HC.out.strs (hw _ (.head _))).2.1) (by kernel_rfl) ?_
        refine g_c (some 24) Tryz.func35 (RX.out _) (by kernel_rfl) ?_
        rintro e v1 ⟨rfl, bw⟩
        replace HG := Lib.hid (HG.out.on bw)
        have HS := Lib.hid (HG.out.h)
        clear bw
        refine ⟨_, rfl, HS.out, ?_⟩
        refine g_ps [(5, .bool true), (6, .pointer (some ⟨w.heap.size, 2, none⟩))] (by kernel_rfl) ?_
        refine g_ld (some 27) (ld_s (.tail _ (.head _)) (k := 2) rfl) (by kernel_rfl) ?_
        refine g_ps [(8, .pointer (some ⟨g, 1, none⟩))] (by kernel_rfl) ?_
        refine g_ld (some 29) (fun w' hw => (HC.out.strs (hw _ (.head _))).2.1) (by kernel_rfl) ?_
        refine g_c (some 30) Tryz.func35 (RY.out _) (by kernel_rfl) ?_
        rintro e v2 ⟨rfl, bw⟩
        replace HG := Lib.hid (HG.out.on bw)
        have HS := Lib.hid (HG.out.h)
        clear bw
        refine ⟨_, rfl, HS.out, ?_⟩
        refine g_ps [(11, .bool false), (12, .bool false)] (by kernel_rfl) ?_
        refine g_no [13, 14, 15, 16, 17, 18, 19, 20, 21, 22, 23, 24] (by kernel_rfl) ?_
        refine g_ps [(25, .bool false), (26, .bool false)] (by kernel_rfl) ?_
        refine g_done ?_
        refine (by assumption : ∀ (a : Act) (w_1 : World), Code.wp _ Code.ret _ a w_1 → _) _ _ ?_
        refine wp_ret ?_
        exact ret_at (v := .bool false) Tryz.results10 (by kernel_rfl) (by kernel_rfl) ⟨rfl, HG.out.b⟩
      | true =>
        rw [hy] at RY
        rw [Bool.true_and]
        clear hx hy
        generalize cvC id = C at *
        generalize cvPT id = tp at *
        go_enter Tryz.func10, Tryz.ntmps10
        go_wp2_with fail
        generalize w.alloc _ = w0 at *
        refine (HK.out _).mono ?_
        rintro e w1 ⟨rfl, b1⟩
        have V := Lib.hid (cv_var' w1 HC.out.size)
        have HG := Lib.hid (((HS0.out.on b1).new cv0 43).putAt (HS0.out.on b1).b.size (HS0.out.on b1).h.apart C)
        clear b1 HK HS0
        obtain ⟨d0, d1, d2⟩ := tp_cells (show _ = some (Obj.cells (tpT (false, x, y)) 25 (0, 0)) from HG.out.h _ (.tail _ (.head _)))
        go_upto_region 4 with (first | refine cv_store rfl (.tmp 5) (.tmp 10) rfl w1.heap.size cv0 C rfl rfl V.out.at0 rfl HC.out.size HC.out.one ?_)
        clear d0 d1 d2 V
        generalize (w1.alloc _).setRow _ _ = wv at *
        generalize w1.heap.size = g at *
        have HS := Lib.hid HG.out.h
        replace HG := Lib.hid HG.out.drew
        replace HS := Lib.hid HG.out.h
        refine sq_go (S := fun w' => Held w' [(g, C, 43), (w.heap.size, tpT (false, x, y), 25)]) [(true, 0), (true, 1), (true, 2), (true, 3), (false, 4), (true, 5), (true, 6), (true, 7), (true, 8), (true, 9), (false, 10), (true, 11), (true, 12), (true, 13), (true, 14), (true, 15), (true, 16), (true, 17), (true, 18), (true, 20), (true, 21), (true, 22), (false, 19), (false, 23), (true, 24), (true, 25), (true, 26)] (by kernel_rfl) (fun d _ _ _ _ h => by cases d <;> exact h) HS.out ?_
        refine SQ.out ?_
        refine g_ps [(0, .pointer (some ⟨w.heap.size, 1, none⟩))] (by kernel_rfl) ?_
        refine g_ld (some 21) (ld_s (.tail _ (.head _)) (k := 1) rfl) (by kernel_rfl) ?_
        refine g_ps [(2, .pointer (some ⟨g, 1, none⟩))] (by kernel_rfl) ?_
        refine g_ld (some 23) (fun w' hw => (HC.out.strs (hw _ (.head _))).2.1) (by kernel_rfl) ?_
        refine g_c (some 24) Tryz.func35 (RX.out _) (by kernel_rfl) ?_
        rintro e v1 ⟨rfl, bw⟩
        replace HG := Lib.hid (HG.out.on bw)
        have HS := Lib.hid (HG.out.h)
        clear bw
        refine ⟨_, rfl, HS.out, ?_⟩
        refine g_ps [(5, .bool true), (6, .pointer (some ⟨w.heap.size, 2, none⟩))] (by kernel_rfl) ?_
        refine g_ld (some 27) (ld_s (.tail _ (.head _)) (k := 2) rfl) (by kernel_rfl) ?_
        refine g_ps [(8, .pointer (some ⟨g, 1, none⟩))] (by kernel_rfl) ?_
        refine g_ld (some 29) (fun w' hw => (HC.out.strs (hw _ (.head _))).2.1) (by kernel_rfl) ?_
        refine g_c (some 30) Tryz.func35 (RY.out _) (by kernel_rfl) ?_
        rintro e v2 ⟨rfl, bw⟩
        replace HG := Lib.hid (HG.out.on bw)
        have HS := Lib.hid (HG.out.h)
        clear bw
        refine ⟨_, rfl, HS.out, ?_⟩
        refine g_ps [(11, .bool true), (12, .bool true), (13, .pointer (some ⟨w.heap.size, 2, none⟩))] (by kernel_rfl) ?_
        refine g_ld (some 34) (ld_s (.tail _ (.head _)) (k := 2) rfl) (by kernel_rfl) ?_
        refine g_ps [(15, .pointer (some ⟨w.heap.size, 2, none⟩))] (by kernel_rfl) ?_
        refine g_ld (some 36) (ld_s (.tail _ (.head _)) (k := 2) rfl) (by kernel_rfl) ?_
        refine g_ps [(17, .pointer (some ⟨g, 1, none⟩))] (by kernel_rfl) ?_
        refine g_ld (some 38) (fun w' hw => (HC.out.strs (hw _ (.head _))).2.1) (by kernel_rfl) ?_
        refine g_ps [(20, .int .i64 id), (21, .pointer (some ⟨w.heap.size, 1, none⟩))] (by kernel_rfl) ?_
        refine g_ld (some 42) (ld_s (.tail _ (.head _)) (k := 1) rfl) (by kernel_rfl) ?_
        refine g_c (some 39) Tryz.func36 (HM.out _) (by kernel_rfl) ?_
        rintro e v3 ⟨rfl, bw⟩
        replace HG := Lib.hid (HG.out.on bw)
        have HS := Lib.hid (HG.out.h)
        clear bw
        refine ⟨_, rfl, HS.out, ?_⟩
        refine g_c (some 43) Tryz.func37 (HU.out _) (by kernel_rfl) ?_
        rintro e v4 ⟨rfl, bw⟩
        replace HG := Lib.hid (HG.out.on bw)
        have HS := Lib.hid (HG.out.h)
        clear bw
        refine ⟨_, rfl, HS.out, ?_⟩
        refine g_take (some 44) (.bool bo) (by kernel_rfl) (yields_eqB (wanted_by (g := 12) (b := true) (d := 32) (by kernel_rfl) (by kernel_rfl) (by kernel_rfl) (by kernel_rfl)) (.tmp 39) (.tmp 43) (by kernel_rfl) m u bo HD.out (by kernel_rfl) (by kernel_rfl)) ?_
        refine g_ps [(25, .bool bo), (26, .bool bo)] (by kernel_rfl) ?_
        refine g_done ?_
        refine (by assumption : ∀ (a : Act) (w_1 : World), Code.wp _ Code.ret _ a w_1 → _) _ _ ?_
        refine wp_ret ?_
        exact ret_at (v := .bool bo) Tryz.results10 (by kernel_rfl) (by kernel_rfl) ⟨rfl, HG.out.b⟩
/-- The base point, or nothing. -/
def baseT (id : Int) : Tp := (false, bsX id, bsY id)
set_option maxRecDepth 8000 in
set_option maxHeartbeats 4000000 in
theorem baseOf_i (id : Int) (w : World) : Calls Tryz.prog 11 #[.int .i64 id] w fun e w' => e = .returned (.agg (tpT (baseT id))) ∧ Below w.heap.size w w' := by
  have hb := (Below.refl w.heap.size w).alloc (Nat.le_refl _)
  cases h : cvB id with
  | true =>
    rcases four_ids h with rfl | rfl | rfl | rfl
    · clear h
      go_enter Tryz.func11, Tryz.ntmps11
      go_wp2
      exact bodyPost_ret (results_cell_row Tryz.results11 _ _ w.heap.size _ _ _ _ rfl (heap_alloc_new w _) Tryz.underlying25 rfl Tryz.infoPoint) rfl ⟨rfl, hb _⟩
    · clear h
      go_enter Tryz.func11, Tryz.ntmps11
      go_wp2
      exact bodyPost_ret (results_cell_row Tryz.results11 _ _ w.heap.size _ _ _ _ rfl (heap_alloc_new w _) Tryz.underlying25 rfl Tryz.infoPoint) rfl ⟨rfl, hb _⟩
    · clear h
      go_enter Tryz.func11, Tryz.ntmps11
      go_wp2
      exact bodyPost_ret (results_cell_row Tryz.results11 _ _ w.heap.size _ _ _ _ rfl (heap_alloc_new w _) Tryz.underlying25 rfl Tryz.infoPoint) rfl ⟨rfl, hb _⟩
    · clear h
      go_enter Tryz.func11, Tryz.ntmps11
      go_wp2
      exact bodyPost_ret (results_cell_row Tryz.results11 _ _ w.heap.size _ _ _ _ rfl (heap_alloc_new w _) Tryz.underlying25 rfl Tryz.infoPoint) rfl ⟨rfl, hb _⟩
  | false =>
    have e : baseT id = noT := by unfold baseT bsX bsY noT; rw [by4_no h, by4_no h]
    rw [e]
    obtain ⟨h1, h2, h3, h4⟩ := no_ids h
    have q1 : (id == 1) = false := by simpa using h1
    have q2 : (id == 2) = false := by simpa using h2
    have q3 : (id == 3) = false := by simpa using h3
    have q4 : (id == 4) = false := by simpa using h4
    clear h e h1 h2 h3 h4
    go_enter Tryz.func11, Tryz.ntmps11
    go_wp2
    exact bodyPost_ret (results_cell_row Tryz.results11 _ _ w.heap.size _ _ _ _ rfl (heap_alloc_new w _) Tryz.underlying25 rfl Tryz.infoPoint) rfl ⟨rfl, hb _⟩
set_option maxRecDepth 8000 in
set_option maxHeartbeats 4000000 in
theorem baseOf_all (id : Int) (w : World) : Calls Tryz.prog 13 #[.int .i64 id] w fun e w' => e = .returned (.agg (tpT (baseT id))) ∧ Below w.heap.size w w' := by
  cases h : cvB id with
  | true => exact baseOf_any h w
  | false =>
    have hb := (Below.refl w.heap.size w).alloc (Nat.le_refl _)
    have e : baseT id = noT := by unfold baseT bsX bsY noT; rw [by4_no h, by4_no h]
    rw [e]
    obtain ⟨h1, h2, h3, h4⟩ := no_ids h
    have q1 : (id == 1) = false := by simpa using h1
    have q2 : (id == 2) = false := by simpa using h2
    have q3 : (id == 3) = false := by simpa using h3
    have q4 : (id == 4) = false := by simpa using h4
    clear h e h1 h2 h3 h4
    go_enter Tryz.func13, Tryz.ntmps13
    go_wp2
    exact bodyPost_ret (results_cell_row Tryz.results13 _ _ w.heap.size _ _ _ _ rfl (heap_alloc_new w _) Tryz.underlying25 rfl Tryz.infoPoint) rfl ⟨rfl, hb _⟩
set_option maxRecDepth 8000 in
set_option maxHeartbeats 4000000 in
theorem samePoint_i (a b : Tp) (w : World) : Calls Tryz.prog 16 #[.agg (tpT a), .agg (tpT b)] w fun e w' => e = .returned (.bool (decide (a = b))) ∧ Below w.heap.size w w' := by
  have HG := Lib.hid (stand2 w (tpT a) (tpT b) 25 25)
  obtain ⟨bo, hb⟩ : ∃ bo, decide (a = b) = bo := ⟨_, rfl⟩
  have HD := Lib.hid hb
  rw [hb]
  clear hb
  go_enter Tryz.func16, Tryz.ntmps16
  go_upto_region 1 with (fail)
  generalize (w.alloc _).alloc _ = w0 at *
  have HS := Lib.hid HG.out.h
  refine wp_region_line (S := fun w' => Held w' [(w.heap.size + 1, tpT b, 25), (w.heap.size, tpT a, 25)]) [(true, 0), (true, 1), (true, 2), (true, 3)] (by kernel_rfl) (by kernel_rfl) HS.out ?_
  refine sq_ld (some 5) (ld_pt (.tail _ (.head _)) (by kernel_rfl)) (by kernel_rfl) ?_
  refine sq_ld (some 6) (ld_pt (.head _) (by kernel_rfl)) (by kernel_rfl) ?_
  refine sq_take (some 7) (.bool bo) (by kernel_rfl) (yields_eqPt (by kernel_rfl) (.tmp 5) (.tmp 6) (by kernel_rfl) a b bo HD.out (by kernel_rfl) (by kernel_rfl)) ?_
  refine sq_ps [(3, .bool bo)] (by kernel_rfl) ?_
  refine sq_done ?_
  refine (by assumption : ∀ (a : Act) (w_1 : World), Code.wp _ Code.ret _ a w_1 → _) _ _ ?_
  refine wp_ret ?_
  exact ret_at (v := .bool bo) Tryz.results16 (by kernel_rfl) (by kernel_rfl) ⟨rfl, HG.out.b⟩
set_option maxRecDepth 8000 in
set_option maxHeartbeats 4000000 in
theorem spotOf_i (q : Tp) (p : ByteArray) (w : World) : Calls Tryz.prog 33 #[.agg (tpT q), .string p] w fun e w' => e = .returned (.agg (spC q p)) ∧ Below w.heap.size w w' := by
  obtain ⟨z, x, y⟩ := q
  have HG := Lib.hid (begun2 (Held.none w) (tpT (z, x, y)) #[.bool false, .string ⟨#[]⟩, .string ⟨#[]⟩, .string ⟨#[]⟩, .string ⟨#[]⟩] 25 64)
  have hge : w.heap.size ≤ w.heap.size + 1 := by omega
  go_enter Tryz.func33, Tryz.ntmps33
  go_upto_region 1 with (fail)
  generalize (w.alloc _).alloc _ = w0 at *
  have HS := Lib.hid HG.out.h
  refine wp_region_line (S := fun w' => Held w' [(w.heap.size, tpT (z, x, y), 25)]) [(true, 0), (true, 1), (true, 2), (true, 3), (true, 4), (true, 5), (true, 6), (true, 7), (true, 8), (true, 9), (true, 10), (false, 11)] (by kernel_rfl) (by kernel_rfl) HS.out ?_
  refine sq_ps [(0, .pointer (some ⟨w.heap.size, 0, none⟩))] (by kernel_rfl) ?_
  refine sq_ld (some 6) (ld_b (.head _) (k := 0) rfl) (by kernel_rfl) ?_
  refine sq_ps [(2, .pointer (some ⟨w.heap.size, 1, none⟩))] (by kernel_rfl) ?_
  refine sq_ld (some 8) (ld_s (.head _) (k := 1) rfl) (by kernel_rfl) ?_
  refine sq_ps [(4, .string p)] (by kernel_rfl) ?_
  refine sq_pure (some 10) (.agg (aggT (x, p))) (by kernel_rfl) (by kernel_rfl) (held_build 62 #[(0, (.tmp 8)), (1, (.tmp 9))] (by kernel_rfl) _ (by kernel_rfl) _ (built_rc _ _)) ?_
  refine sq_ps [(6, .pointer (some ⟨w.heap.size, 2, none⟩))] (by kernel_rfl) ?_
  refine sq_ld (some 12) (ld_s (.head _) (k := 2) rfl) (by kernel_rfl) ?_
  refine sq_ps [(8, .string p)] (by kernel_rfl) ?_
  refine sq_pure (some 14) (.agg (aggT (y, p))) (by kernel_rfl) (by kernel_rfl) (held_build 62 #[(0, (.tmp 12)), (1, (.tmp 13))] (by kernel_rfl) _ (by kernel_rfl) _ (built_rc _ _)) ?_
  refine sq_pure (some 15) (.agg (spC (z, x, y) p)) (by kernel_rfl) (by kernel_rfl) (held_build 64 #[(0, (.tmp 6)), (1, (.tmp 10)), (2, (.tmp 14))] (by kernel_rfl) _ (by kernel_rfl) _ (built_s3 _ _ _ _)) ?_
  have HE := Lib.hid (HG.out.put hge (spC (z, x, y) p))
  refine sq_st 64 (w.heap.size + 1) (spC (z, x, y) p) HG.out.out Tryz.infoSP rfl (by kernel_rfl) ((HG.out.h).setRow (HG.out.ne)) (by kernel_rfl) ?_
  refine sq_done ?_
  refine (by assumption : ∀ (a : Act) (w_1 : World), Code.wp _ Code.ret _ a w_1 → _) _ _ ?_
  refine wp_ret ?_
  exact bodyPost_ret (results_cell_row Tryz.results33 _ _ (w.heap.size + 1) _ _ _ _ (by kernel_rfl) HE.out.out Tryz.underlying64 rfl Tryz.infoSP) (by kernel_rfl) ⟨rfl, HE.out.b⟩
set_option maxRecDepth 8000 in
set_option maxHeartbeats 4000000 in
theorem negPoint_i (id : Int) (q : Tp) (w : World) : Calls Tryz.prog 14 #[.int .i64 id, .agg (tpT q)] w fun e w' => e = .returned (.agg (tpT (negPtG id q))) ∧ Below w.heap.size w w' := by
  have HP := Lib.hid (pointOk_i id q)
  cases hb : pointB id q with
  | false =>
    have e : negPtG id q = noT := by unfold negPtG; rw [hb]; rfl
    rw [hb] at HP
    rw [e]
    have HG := Lib.hid (begun2 (Held.none w) (tpT q) #[.bool false, .string ⟨#[]⟩, .string ⟨#[]⟩] 25 25)
    clear hb e
    go_enter Tryz.func14, Tryz.ntmps14
    go_upto_region 1 with (fail)
    generalize (w.alloc _).alloc _ = w0 at *
    go_wp2_with (first | refine load_v rfl 25 (.tmp 3) rfl w.heap.size (tpT q) rfl (HG.out.h _ (.head _)) Tryz.underlying25 rfl Tryz.infoPoint ?_)
    refine (HP.out _).mono ?_
    rintro e w1 ⟨rfl, b1⟩
    replace HG := Lib.hid (HG.out.on b1)
    have HE := Lib.hid (HG.out.put (Nat.le_succ _) (tpT noT))
    clear b1
    go_wp2_with (first | refine store_v rfl 25 (.tmp 4) (.tmp 11) rfl (w.heap.size + 1) _ (tpT noT) rfl rfl HG.out.out Tryz.infoPoint rfl (by kernel_rfl) ?_)
    exact bodyPost_ret (results_cell_row Tryz.results14 _ _ (w.heap.size + 1) _ _ _ _ rfl HE.out.out Tryz.underlying25 rfl Tryz.infoPoint) rfl ⟨rfl, HE.out.b⟩
  | true =>
    rw [hb] at HP
    obtain ⟨z, x, y⟩ := q
    have e : negPtG id (z, x, y) = (z, x, negR y (cvPT id)) := by
      cases z with
      | false => exact neg_text hb
      | true =>
        have F := point_fit hb
        obtain ⟨e1, e2⟩ := F.no rfl
        simp only at e1 e2
        subst e1 e2
        have hm := (curve_fit F.cv).mp
        have hr : negR ⟨#[]⟩ (cvPT id) = ⟨#[]⟩ := by
          have k := negR_gS (x := 0) hm (mod_pos hm)
          rw [Nat.zero_add, Nat.sub_zero, Nat.mod_self] at k
          rwa [gS_zero] at k
        rw [hr]
        unfold negPtG
        rw [hb]
        rfl
    rw [e]
    have HK := Lib.hid (curveOf_i id)
    have HC := Lib.hid (cv_in id)
    have HN := Lib.hid (negRest_i y (cvPT id))
    rw [(point_fit hb).cv] at HK
    clear hb e
    generalize negR y (cvPT id) = ng at *
    generalize cvC id = C at *
    generalize cvPT id = tp at *
    have HG := Lib.hid (begun2 (Held.none w) (tpT (z, x, y)) #[.bool false, .string ⟨#[]⟩, .string ⟨#[]⟩] 25 25)
    go_enter Tryz.func14, Tryz.ntmps14
    go_upto_region 1 with (fail)
    generalize (w.alloc _).alloc _ = w0 at *
    go_wp2_with (first | refine load_v rfl 25 (.tmp 3) rfl w.heap.size (tpT (z, x, y)) rfl (HG.out.h _ (.head _)) Tryz.underlying25 rfl Tryz.infoPoint ?_)
    refine (HP.out _).mono ?_
    rintro e w1 ⟨rfl, b1⟩
    replace HG := Lib.hid (HG.out.on b1)
    clear b1 HP
    go_wp2_with fail
    refine (HK.out _).mono ?_
    rintro e w2 ⟨rfl, b2⟩
    have V := Lib.hid (cv_var' w2 HC.out.size)
    replace HG := Lib.hid (((HG.out.on b2).new cv0 43).putAt (HG.out.on b2).b.size (HG.out.on b2).h.apart C)
    clear b2 HK
    obtain ⟨_, c1, _⟩ := HC.out.cells _ _ V.out.at1
    obtain ⟨_, _, d2⟩ := tp_cells (HG.out.h _ (.tail _ (.head _)))
    go_wp2_with (first | refine cv_store rfl (.tmp 5) (.tmp 15) rfl w2.heap.size cv0 C rfl rfl V.out.at0 rfl HC.out.size HC.out.one ?_)
    clear c1 d2 V
    generalize (w2.alloc _).setRow _ _ = w3 at *
    generalize w2.heap.size = g at *
    refine (HN.out _).mono ?_
    rintro e w4 ⟨rfl, b4⟩
    replace HG := Lib.hid (HG.out.on b4)
    clear b4 HN
    have f2 := frozen_of_row w4 w.heap.size 2 _ _ (HG.out.h _ (.tail _ (.head _)))
    obtain ⟨_, _, d2⟩ := tp_cells (HG.out.h _ (.tail _ (.head _)))
    go_upto_region 5 with (fail)
    have HQ : Hid ((w4.setCell ⟨w.heap.size, 2, none⟩ (.string ng)).heap[w.heap.size]? = some (.cells (tpT (z, x, ng)) 25 (0, 0))) := heap_setCell_same w4 w.heap.size 2 _ _ (.string ng) (HG.out.h _ (.tail _ (.head _)))
    have HO := Lib.hid ((Below.heap_setCell w4 ⟨w.heap.size, 2, none⟩ (.string ng) (w.heap.size + 1) (show w.heap.size + 1 ≠ w.heap.size by omega)).trans HG.out.out)
    have HB := Lib.hid (HG.out.b.setCell (p := ⟨w.heap.size, 2, none⟩) (show w.heap.size ≤ w.heap.size from Nat.le_refl _) (.string ng))
    generalize w4.setCell ⟨w.heap.size, 2, none⟩ (.string ng) = w5 at *
    have HW := Lib.hid (below_setRow2 HB.out (show w.heap.size ≤ w.heap.size + 1 by omega) (tpT (z, x, ng)))
    have HR := Lib.hid (setRow_heap w5 (w.heap.size + 1) _ (tpT (z, x, ng)) _ _ HO.out)
    clear f2 d2 HG HB
    go_wp2_with (first | refine load_v rfl 25 (.tmp 3) rfl w.heap.size (tpT (z, x, ng)) rfl HQ.out Tryz.underlying25 rfl Tryz.infoPoint ?_ | refine store_v rfl 25 (.tmp 4) (.tmp 23) rfl (w.heap.size + 1) _ (tpT (z, x, ng)) rfl rfl HO.out Tryz.infoPoint rfl (by kernel_rfl) ?_)
    exact bodyPost_ret (results_cell_row Tryz.results14 _ _ (w.heap.size + 1) _ _ _ _ rfl HR.out Tryz.underlying25 rfl Tryz.infoPoint) rfl ⟨rfl, HW.out⟩
theorem addPtG_no {id : Int} {a b : Tp} (h : (pointB id a && pointB id b) = false) : addPtG id a b = noT := by unfold addPtG; rw [h]; rfl
theorem addPtG_is {id : Int} {a b : Tp} (ha : pointB id a = true) (hb : pointB id b = true) : addPtG id a b = plusT (cvPT id) a b := by
  rw [plus_txt ha hb]; unfold addPtG; rw [ha, hb]; rfl
set_option maxRecDepth 8000 in
set_option maxHeartbeats 4000000 in
theorem addPoint_i (id : Int) (a b : Tp) (w : World) : Calls Tryz.prog 9 #[.int .i64 id, .agg (tpT a), .agg (tpT b)] w fun e w' => e = .returned (.agg (tpT (addPtG id a b))) ∧ Below w.heap.size w w' := by
  have HA := Lib.hid (pointOk_i id a)
  have HB := Lib.hid (pointOk_i id b)
  have HG := Lib.hid (begun3 (Held.none w) (tpT a) (tpT b) #[.bool false, .string ⟨#[]⟩, .string ⟨#[]⟩] 25 25 25)
  have hge : w.heap.size ≤ w.heap.size + 1 + 1 := by omega
  obtain ⟨z1, x1, y1⟩ := a
  obtain ⟨z2, x2, y2⟩ := b
  cases ha : pointB id (z1, x1, y1) with
  | false =>
    rw [addPtG_no (by rw [ha]; rfl)]
    rw [ha] at HA
    clear ha HB
    go_enter Tryz.func9, Tryz.ntmps9
    go_upto_region 1 with (fail)
    generalize ((w.alloc _).alloc _).alloc _ = w0 at *
    have HS := Lib.hid HG.out.h
    refine wp_region_line (S := fun w' => Held w' [(w.heap.size + 1, tpT (z2, x2, y2), 25), (w.heap.size, tpT (z1, x1, y1), 25)]) [(true, 0), (true, 1), (false, 2), (true, 3), (true, 4), (true, 5), (true, 6), (true, 7), (true, 8), (true, 9)] (by kernel_rfl) (by kernel_rfl) HS.out ?_
    refine SQ.out ?_
    refine g_ps [(0, .int .i64 id)] (by kernel_rfl) ?_
    refine g_ld (some 13) (ld_pt (.tail _ (.head _)) (by kernel_rfl)) (by kernel_rfl) ?_
    refine g_c (some 14) Tryz.func10 (HA.out _) (by kernel_rfl) ?_
    rintro e v1 ⟨rfl, bw⟩
    replace HG := Lib.hid (HG.out.on bw)
    have HS := Lib.hid (HG.out.h)
    clear bw
    refine ⟨_, rfl, HS.out, ?_⟩
    refine g_ps [(3, .bool true), (4, .bool true)] (by kernel_rfl) ?_
    refine g_no [5, 6, 7, 8] (by kernel_rfl) ?_
    refine g_ps [(9, .bool true)] (by kernel_rfl) ?_
    refine g_norm { tmps := List.toArray (List.append [.int .i64 id, .agg (tpT (z1, x1, y1)), .agg (tpT (z2, x2, y2)), undef, .pointer (some ⟨w.heap.size, 0, none⟩), .pointer (some ⟨(w.heap.size + 1), 0, none⟩), .pointer (some ⟨(w.heap.size + 1 + 1), 0, none⟩), undef, undef, undef, undef, undef, .int .i64 id, .agg (tpT (z1, x1, y1)), .bool false, .bool true, .bool true, undef, undef, undef, undef, .bool true, undef, undef, undef, undef, undef, undef, undef, undef, undef, undef, undef, undef, undef, undef, undef, undef, undef, undef] ([undef, undef, undef, undef, undef, undef, undef, undef])), defers := [] } (by kernel_rfl) ?_
    refine g_done ?_
    refine (by assumption : ∀ (a : Act) (w_1 : World), Code.wp _ _ _ a w_1 → _) _ _ ?_
    go_upto_region 2 with (fail)
    replace HS := Lib.hid HG.out.h
    refine wp_region_line (S := fun w' => Held w' [(w.heap.size + 1, tpT (z2, x2, y2), 25), (w.heap.size, tpT (z1, x1, y1), 25)]) [(true, 0), (false, 1)] (by kernel_rfl) (by kernel_rfl) HS.out ?_
    refine sq_pure (some 22) (.agg (tpT noT)) (by kernel_rfl) (by kernel_rfl) (held_build 25 #[] (by kernel_rfl) _ (by kernel_rfl) _ built_pt0) ?_
    have HE := Lib.hid (HG.out.put hge (tpT noT))
    refine sq_st 25 (w.heap.size + 1 + 1) (tpT noT) HG.out.out Tryz.infoPoint rfl (by kernel_rfl) ((HG.out.h).setRow (HG.out.ne)) (by kernel_rfl) ?_
    refine sq_done ?_
    refine (by assumption : ∀ (a : Act) (w_1 : World), Code.wp _ Code.ret _ a w_1 → _) _ _ ?_
    refine wp_ret ?_
    try refine then_ret ?_
    exact bodyPost_ret (results_cell_row Tryz.results9 _ _ (w.heap.size + 1 + 1) _ _ _ _ (by kernel_rfl) HE.out.out Tryz.underlying25 rfl Tryz.infoPoint) (by kernel_rfl) ⟨rfl, HE.out.b⟩
  | true =>
    rw [ha] at HA
    cases hb : pointB id (z2, x2, y2) with
    | false =>
      rw [addPtG_no (by rw [ha, hb]; rfl)]
      rw [hb] at HB
      clear ha hb
      go_enter Tryz.func9, Tryz.ntmps9
      go_upto_region 1 with (fail)
      generalize ((w.alloc _).alloc _).alloc _ = w0 at *
      have HS := Lib.hid HG.out.h
      refine wp_region_line (S := fun w' => Held w' [(w.heap.size + 1, tpT (z2, x2, y2), 25), (w.heap.size, tpT (z1, x1, y1), 25)]) [(true, 0), (true, 1), (false, 2), (true, 3), (true, 4), (true, 5), (true, 6), (false, 7), (true, 8), (true, 9)] (by kernel_rfl) (by kernel_rfl) HS.out ?_
      refine SQ.out ?_
      refine g_ps [(0, .int .i64 id)] (by kernel_rfl) ?_
      refine g_ld (some 13) (ld_pt (.tail _ (.head _)) (by kernel_rfl)) (by kernel_rfl) ?_
      refine g_c (some 14) Tryz.func10 (HA.out _) (by kernel_rfl) ?_
      rintro e v1 ⟨rfl, bw⟩
      replace HG := Lib.hid (HG.out.on bw)
      have HS := Lib.hid (HG.out.h)
      clear bw
      refine ⟨_, rfl, HS.out, ?_⟩
      refine g_ps [(3, .bool false), (4, .bool false), (5, .int .i64 id)] (by kernel_rfl) ?_
      refine g_ld (some 18) (ld_pt (.head _) (by kernel_rfl)) (by kernel_rfl) ?_
      refine g_c (some 19) Tryz.func10 (HB.out _) (by kernel_rfl) ?_
      rintro e v2 ⟨rfl, bw⟩
      replace HG := Lib.hid (HG.out.on bw)
      have HS := Lib.hid (HG.out.h)
      clear bw
      refine ⟨_, rfl, HS.out, ?_⟩
      refine g_ps [(8, .bool true), (9, .bool true)] (by kernel_rfl) ?_
      refine g_norm { tmps := List.toArray (List.append [.int .i64 id, .agg (tpT (z1, x1, y1)), .agg (tpT (z2, x2, y2)), undef, .pointer (some ⟨w.heap.size, 0, none⟩), .pointer (some ⟨(w.heap.size + 1), 0, none⟩), .pointer (some ⟨(w.heap.size + 1 + 1), 0, none⟩), undef, undef, undef, undef, undef, .int .i64 id, .agg (tpT (z1, x1, y1)), .bool true, .bool false, .bool false, .int .i64 id, .agg (tpT (z2, x2, y2)), .bool false, .bool true, .bool true, undef, undef, undef, undef, undef, undef, undef, undef, undef, undef, undef, undef, undef, undef, undef, undef, undef, undef] ([undef, undef, undef, undef, undef, undef, undef, undef])), defers := [] } (by kernel_rfl) ?_
      refine g_done ?_
      refine (by assumption : ∀ (a : Act) (w_1 : World), Code.wp _ _ _ a w_1 → _) _ _ ?_
      go_upto_region 2 with (fail)
      replace HS := Lib.hid HG.out.h
      refine wp_region_line (S := fun w' => Held w' [(w.heap.size + 1, tpT (z2, x2, y2), 25), (w.heap.size, tpT (z1, x1, y1), 25)]) [(true, 0), (false, 1)] (by kernel_rfl) (by kernel_rfl) HS.out ?_
      refine sq_pure (some 22) (.agg (tpT noT)) (by kernel_rfl) (by kernel_rfl) (held_build 25 #[] (by kernel_rfl) _ (by kernel_rfl) _ built_pt0) ?_
      have HE := Lib.hid (HG.out.put hge (tpT noT))
      refine sq_st 25 (w.heap.size + 1 + 1) (tpT noT) HG.out.out Tryz.infoPoint rfl (by kernel_rfl) ((HG.out.h).setRow (HG.out.ne)) (by kernel_rfl) ?_
      refine sq_done ?_
      refine (by assumption : ∀ (a : Act) (w_1 : World), Code.wp _ Code.ret _ a w_1 → _) _ _ ?_
      refine wp_ret ?_
      try refine then_ret ?_
      exact bodyPost_ret (results_cell_row Tryz.results9 _ _ (w.heap.size + 1 + 1) _ _ _ _ (by kernel_rfl) HE.out.out Tryz.underlying25 rfl Tryz.infoPoint) (by kernel_rfl) ⟨rfl, HE.out.b⟩
    | true =>
      rw [hb] at HB
      rw [addPtG_is ha hb]
      have HK := Lib.hid (curveOf_i id)
      have HC := Lib.hid (cv_in id)
      have HSum := Lib.hid (spot_plus (cvPT id) (z1, x1, y1) (z2, x2, y2))
      rw [(point_fit ha).cv] at HK
      obtain ⟨s, hs⟩ : ∃ s, plusT (cvPT id) (z1, x1, y1) (z2, x2, y2) = s := ⟨_, rfl⟩
      rw [hs] at HSum ⊢
      obtain ⟨sz, sx, sy⟩ := s
      clear ha hb hs
      generalize cvC id = C at *
      generalize cvPT id = tp at *
      go_enter Tryz.func9, Tryz.ntmps9
      go_upto_region 1 with (fail)
      generalize ((w.alloc _).alloc _).alloc _ = w0 at *
      have HS := Lib.hid HG.out.h
      refine wp_region_line (S := fun w' => Held w' [(w.heap.size + 1, tpT (z2, x2, y2), 25), (w.heap.size, tpT (z1, x1, y1), 25)]) [(true, 0), (true, 1), (false, 2), (true, 3), (true, 4), (true, 5), (true, 6), (false, 7), (true, 8), (true, 9)] (by kernel_rfl) (by kernel_rfl) HS.out ?_
      refine SQ.out ?_
      refine g_ps [(0, .int .i64 id)] (by kernel_rfl) ?_
      refine g_ld (some 13) (ld_pt (.tail _ (.head _)) (by kernel_rfl)) (by kernel_rfl) ?_
      refine g_c (some 14) Tryz.func10 (HA.out _) (by kernel_rfl) ?_
      rintro e v1 ⟨rfl, bw⟩
      replace HG := Lib.hid (HG.out.on bw)
      have HS := Lib.hid (HG.out.h)
      clear bw
      refine ⟨_, rfl, HS.out, ?_⟩
      refine g_ps [(3, .bool false), (4, .bool false), (5, .int .i64 id)] (by kernel_rfl) ?_
      refine g_ld (some 18) (ld_pt (.head _) (by kernel_rfl)) (by kernel_rfl) ?_
      refine g_c (some 19) Tryz.func10 (HB.out _) (by kernel_rfl) ?_
      rintro e v2 ⟨rfl, bw⟩
      replace HG := Lib.hid (HG.out.on bw)
      have HS := Lib.hid (HG.out.h)
      clear bw
      refine ⟨_, rfl, HS.out, ?_⟩
      refine g_ps [(8, .bool false), (9, .bool false)] (by kernel_rfl) ?_
      refine g_norm { tmps := List.toArray (List.append [.int .i64 id, .agg (tpT (z1, x1, y1)), .agg (tpT (z2, x2, y2)), undef, .pointer (some ⟨w.heap.size, 0, none⟩), .pointer (some ⟨(w.heap.size + 1), 0, none⟩), .pointer (some ⟨(w.heap.size + 1 + 1), 0, none⟩), undef, undef, undef, undef, undef, .int .i64 id, .agg (tpT (z1, x1, y1)), .bool true, .bool false, .bool false, .int .i64 id, .agg (tpT (z2, x2, y2)), .bool true, .bool false, .bool false, undef, undef, undef, undef, undef, undef, undef, undef, undef, undef, undef, undef, undef, undef, undef, undef, undef, undef] ([undef, undef, undef, undef, undef, undef, undef, undef])), defers := [] } (by kernel_rfl) ?_
      refine g_done ?_
      refine (by assumption : ∀ (a : Act) (w_1 : World), Code.wp _ _ _ a w_1 → _) _ _ ?_
      clear HA HB
      go_upto_region 3 with (fail)
      go_wp2_with fail
      refine (HK.out _).mono ?_
      rintro e wc ⟨rfl, bc⟩
      have V := Lib.hid (cv_var' wc HC.out.size)
      replace HG := Lib.hid (((HG.out.on bc).new cv0 43).putAt (HG.out.on bc).b.size (HG.out.on bc).h.apart C)
      clear bc HK
      go_upto_region 4 with (first | refine cv_store rfl (.tmp 7) (.tmp 26) rfl wc.heap.size cv0 C rfl rfl V.out.at0 rfl HC.out.size HC.out.one ?_)
      clear V
      generalize (wc.alloc _).setRow _ _ = wv at *
      generalize wc.heap.size = g at *
      replace HS := Lib.hid HG.out.h
      refine Code.wp_mono (Q := fun e a' w' => e = .normal ∧ ∃ (g4a g4b : Nat), a' = { tmps := List.toArray (List.append [.int .i64 id, .agg (tpT (z1, x1, y1)), .agg (tpT (z2, x2, y2)), undef, .pointer (some ⟨w.heap.size, 0, none⟩), .pointer (some ⟨(w.heap.size + 1), 0, none⟩), .pointer (some ⟨(w.heap.size + 1 + 1), 0, none⟩), .pointer (some ⟨g, 0, none⟩), .bool true, .pointer (some ⟨g4a, 0, none⟩), .pointer (some ⟨g4b, 0, none⟩), undef, .int .i64 id, .agg (tpT (z1, x1, y1)), .bool true, .bool false, .bool false, .int .i64 id, .agg (tpT (z2, x2, y2)), .bool true, .bool false, .bool false, undef, .tuple #[.agg C, .bool true], .int .i64 id, .tuple #[.agg C, .bool true], .agg C, .bool true, .agg (tpT (z1, x1, y1)), .pointer (some ⟨g, 1, none⟩), .string tp, .agg (spC (z1, x1, y1) tp), .agg (tpT (z2, x2, y2)), .pointer (some ⟨g, 1, none⟩), .string tp, .agg (spC (z2, x2, y2) tp), undef, undef, undef, undef] ([undef, undef, undef, undef, undef, undef, undef, undef])), defers := [] } ∧ Begun w w' [(g4b, spC (z2, x2, y2) tp, 64), (g4a, spC (z1, x1, y1) tp, 64), (g, C, 43), (w.heap.size + 1, tpT (z2, x2, y2), 25), (w.heap.size, tpT (z1, x1, y1), 25)] (w.heap.size + 1 + 1) #[.bool false, .string ⟨#[]⟩, .string ⟨#[]⟩] 25) ?_ ?_
      rotate_left
      · refine m_begin (S := fun w' => Held w' [(g, C, 43), (w.heap.size + 1, tpT (z2, x2, y2), 25), (w.heap.size, tpT (z1, x1, y1), 25)]) (by kernel_rfl) 12 (by kernel_rfl) ?_
        replace HG := Lib.hid HG.out.drew
        change wpM _ _ _ _ _ _ _ _ (World.drew _)
        generalize World.drew wv = v400 at *
        have HS := Lib.hid HG.out.h
        refine m_s 6 [(true, 0), (true, 1), (true, 2), (true, 4), (true, 5), (true, 6)] 119 (by kernel_rfl) HS.out ?_
        refine sq_ld (some 28) (ld_pt (.tail _ (.tail _ (.head _))) (by kernel_rfl)) (by kernel_rfl) ?_
        refine sq_ps [(1, .pointer (some ⟨g, 1, none⟩))] (by kernel_rfl) ?_
        refine sq_ld (some 30) (fun w' hw => (HC.out.strs (hw _ (.head _))).2.1) (by kernel_rfl) ?_
        refine sq_ld (some 32) (ld_pt (.tail _ (.head _)) (by kernel_rfl)) (by kernel_rfl) ?_
        refine sq_ps [(5, .pointer (some ⟨g, 1, none⟩))] (by kernel_rfl) ?_
        refine sq_ld (some 34) (fun w' hw => (HC.out.strs (hw _ (.head _))).2.1) (by kernel_rfl) ?_
        refine sq_done ?_
        refine m_w 5 [3, 8, 9] (by kernel_rfl) ?_
        intro i hi
        rcases (by simpa using hi : i = 3 ∨ i = 8 ∨ i = 9) with rfl | rfl | rfl
        · refine sq_c (some 31) Tryz.func33 (spotOf_i (z1, x1, y1) tp _) (by kernel_rfl) ?_
          rintro e v401 ⟨rfl, bw⟩
          replace HG := Lib.hid (HG.out.on bw)
          have HS := Lib.hid (HG.out.h)
          clear bw
          refine ⟨_, rfl, HS.out, ?_⟩
          refine sq_done ?_
          refine m_mask (M' := 127) (by kernel_rfl) ?_
          refine m_w 4 [7, 8, 9] (by kernel_rfl) ?_
          intro i hi
          rcases (by simpa using hi : i = 7 ∨ i = 8 ∨ i = 9) with rfl | rfl | rfl
          · refine sq_c (some 35) Tryz.func33 (spotOf_i (z2, x2, y2) tp _) (by kernel_rfl) ?_
            rintro e v402 ⟨rfl, bw⟩
            replace HG := Lib.hid (HG.out.on bw)
            have HS := Lib.hid (HG.out.h)
            clear bw
            refine ⟨_, rfl, HS.out, ?_⟩
            refine sq_done ?_
            refine m_mask (M' := 255) (by kernel_rfl) ?_
            refine m_w 3 [8, 9] (by kernel_rfl) ?_
            intro i hi
            rcases (by simpa using hi : i = 8 ∨ i = 9) with rfl | rfl
            · have GEg4a := Lib.hid HG.out.b.size
              have APg4a := Lib.hid HG.out.h.apart
              replace HG := Lib.hid (HG.out.new (spC noT ⟨#[]⟩) 64)
              have HS := Lib.hid (HG.out.h.tail)
              refine sq_alloc (some 9) 64 (spC noT ⟨#[]⟩) (by kernel_rfl) (by kernel_rfl) (by kernel_rfl) (by kernel_rfl) (zero_sp _) HS.out ?_
              generalize v402.alloc _ = u403 at *
              generalize v402.heap.size = g4a at *
              refine sq_done ?_
              refine m_mask (M' := 511) (by kernel_rfl) ?_
              refine m_s 2 [(false, 9)] 1023 (by kernel_rfl) HS.out ?_
              have GEg4b := Lib.hid HG.out.b.size
              have APg4b := Lib.hid HG.out.h.apart
              replace HG := Lib.hid (HG.out.new (spC noT ⟨#[]⟩) 64)
              have HS := Lib.hid (HG.out.h.tail.tail)
              refine sq_alloc (some 10) 64 (spC noT ⟨#[]⟩) (by kernel_rfl) (by kernel_rfl) (by kernel_rfl) (by kernel_rfl) (zero_sp _) HS.out ?_
              generalize u403.alloc _ = u404 at *
              generalize u403.heap.size = g4b at *
              refine sq_done ?_
              refine m_s 1 [(false, 10)] 2047 (by kernel_rfl) HS.out ?_
              replace HG := Lib.hid (HG.out.sub (L' := [(g4a, spC noT ⟨#[]⟩, 64), (g4b, spC noT ⟨#[]⟩, 64), (g, C, 43), (w.heap.size + 1, tpT (z2, x2, y2), 25), (w.heap.size, tpT (z1, x1, y1), 25)]) (fun q hq => mem_front 1 hq))
              have HN := Lib.hid (HG.out.h _ (.head _))
              replace HG := Lib.hid (HG.out.putAt GEg4a.out (fun q hq => by simp only [List.mem_cons, List.not_mem_nil, or_false] at hq; rcases hq with rfl | rfl | rfl | rfl; exact (APg4b.out (g4a, spC noT ⟨#[]⟩, 64) (.head _)).symm; exact APg4a.out (g, C, 43) (.head _); exact APg4a.out (w.heap.size + 1, tpT (z2, x2, y2), 25) (.tail _ (.head _)); exact APg4a.out (w.heap.size, tpT (z1, x1, y1), 25) (.tail _ (.tail _ (.head _)))) (spC (z1, x1, y1) tp))
              have HS := Lib.hid (HG.out.h.tail.tail)
              refine sq_st 64 g4a (spC (z1, x1, y1) tp) HN.out Tryz.infoSP rfl (by kernel_rfl) HS.out (by kernel_rfl) ?_
              clear HN
              generalize World.setRow _ g4a _ = t405 at *
              refine sq_done ?_
              refine m_s 0 [(false, 11)] 4095 (by kernel_rfl) HS.out ?_
              replace HG := Lib.hid (HG.out.sub (L' := [(g4b, spC noT ⟨#[]⟩, 64), (g4a, spC (z1, x1, y1) tp, 64), (g, C, 43), (w.heap.size + 1, tpT (z2, x2, y2), 25), (w.heap.size, tpT (z1, x1, y1), 25)]) (fun q hq => mem_front 1 hq))
              have HN := Lib.hid (HG.out.h _ (.head _))
              replace HG := Lib.hid (HG.out.putAt GEg4b.out (fun q hq => by simp only [List.mem_cons, List.not_mem_nil, or_false] at hq; rcases hq with rfl | rfl | rfl | rfl; exact APg4b.out (g4a, spC noT ⟨#[]⟩, 64) (.head _); exact APg4b.out (g, C, 43) (.tail _ (.head _)); exact APg4b.out (w.heap.size + 1, tpT (z2, x2, y2), 25) (.tail _ (.tail _ (.head _))); exact APg4b.out (w.heap.size, tpT (z1, x1, y1), 25) (.tail _ (.tail _ (.tail _ (.head _))))) (spC (z2, x2, y2) tp))
              have HS := Lib.hid (HG.out.h.tail.tail)
              refine sq_st 64 g4b (spC (z2, x2, y2) tp) HN.out Tryz.infoSP rfl (by kernel_rfl) HS.out (by kernel_rfl) ?_
              clear HN
              generalize World.setRow _ g4b _ = t406 at *
              refine sq_done ?_
              refine m_fin (by kernel_rfl) ?_
              exact ⟨rfl, g4a, g4b, by kernel_rfl, HG.out⟩
            · have GEg4b := Lib.hid HG.out.b.size
              have APg4b := Lib.hid HG.out.h.apart
              replace HG := Lib.hid (HG.out.new (spC noT ⟨#[]⟩) 64)
              have HS := Lib.hid (HG.out.h.tail)
              refine sq_alloc (some 10) 64 (spC noT ⟨#[]⟩) (by kernel_rfl) (by kernel_rfl) (by kernel_rfl) (by kernel_rfl) (zero_sp _) HS.out ?_
              generalize v402.alloc _ = u407 at *
              generalize v402.heap.size = g4b at *
              refine sq_done ?_
              refine m_mask (M' := 767) (by kernel_rfl) ?_
              refine m_s 2 [(false, 8)] 1023 (by kernel_rfl) HS.out ?_
              have GEg4a := Lib.hid HG.out.b.size
              have APg4a := Lib.hid HG.out.h.apart
              replace HG := Lib.hid (HG.out.new (spC noT ⟨#[]⟩) 64)
              have HS := Lib.hid (HG.out.h.tail.tail)
              refine sq_alloc (some 9) 64 (spC noT ⟨#[]⟩) (by kernel_rfl) (by kernel_rfl) (by kernel_rfl) (by kernel_rfl) (zero_sp _) HS.out ?_
              generalize u407.alloc _ = u408 at *
              generalize u407.heap.size = g4a at *
              refine sq_done ?_
              refine m_s 1 [(false, 10)] 2047 (by kernel_rfl) HS.out ?_
              have HN := Lib.hid (HG.out.h _ (.head _))
              replace HG := Lib.hid (HG.out.putAt GEg4a.out APg4a.out (spC (z1, x1, y1) tp))
              have HS := Lib.hid (HG.out.h.tail.tail)
              refine sq_st 64 g4a (spC (z1, x1, y1) tp) HN.out Tryz.infoSP rfl (by kernel_rfl) HS.out (by kernel_rfl) ?_
              clear HN
              generalize World.setRow _ g4a _ = t409 at *
              refine sq_done ?_
              refine m_s 0 [(false, 11)] 4095 (by kernel_rfl) HS.out ?_
              replace HG := Lib.hid (HG.out.sub (L' := [(g4b, spC noT ⟨#[]⟩, 64), (g4a, spC (z1, x1, y1) tp, 64), (g, C, 43), (w.heap.size + 1, tpT (z2, x2, y2), 25), (w.heap.size, tpT (z1, x1, y1), 25)]) (fun q hq => mem_front 1 hq))
              have HN := Lib.hid (HG.out.h _ (.head _))
              replace HG := Lib.hid (HG.out.putAt GEg4b.out (fun q hq => by simp only [List.mem_cons, List.not_mem_nil, or_false] at hq; rcases hq with rfl | rfl | rfl | rfl; exact (APg4a.out (g4b, spC noT ⟨#[]⟩, 64) (.head _)).symm; exact APg4b.out (g, C, 43) (.head _); exact APg4b.out (w.heap.size + 1, tpT (z2, x2, y2), 25) (.tail _ (.head _)); exact APg4b.out (w.heap.size, tpT (z1, x1, y1), 25) (.tail _ (.tail _ (.head _)))) (spC (z2, x2, y2) tp))
              have HS := Lib.hid (HG.out.h.tail.tail)
              refine sq_st 64 g4b (spC (z2, x2, y2) tp) HN.out Tryz.infoSP rfl (by kernel_rfl) HS.out (by kernel_rfl) ?_
              clear HN
              generalize World.setRow _ g4b _ = t410 at *
              refine sq_done ?_
              refine m_fin (by kernel_rfl) ?_
              exact ⟨rfl, g4a, g4b, by kernel_rfl, HG.out⟩
          · have GEg4a := Lib.hid HG.out.b.size
            have APg4a := Lib.hid HG.out.h.apart
            replace HG := Lib.hid (HG.out.new (spC noT ⟨#[]⟩) 64)
            have HS := Lib.hid (HG.out.h.tail)
            refine sq_alloc (some 9) 64 (spC noT ⟨#[]⟩) (by kernel_rfl) (by kernel_rfl) (by kernel_rfl) (by kernel_rfl) (zero_sp _) HS.out ?_
            generalize v401.alloc _ = u411 at *
            generalize v401.heap.size = g4a at *
            refine sq_done ?_
            refine m_mask (M' := 383) (by kernel_rfl) ?_
            refine m_w 3 [7, 9] (by kernel_rfl) ?_
            intro i hi
            rcases (by simpa using hi : i = 7 ∨ i = 9) with rfl | rfl
            · refine sq_c (some 35) Tryz.func33 (spotOf_i (z2, x2, y2) tp _) (by kernel_rfl) ?_
              rintro e v412 ⟨rfl, bw⟩
              replace HG := Lib.hid (HG.out.on bw)
              have HS := Lib.hid (HG.out.h.tail)
              clear bw
              refine ⟨_, rfl, HS.out, ?_⟩
              refine sq_done ?_
              refine m_mask (M' := 511) (by kernel_rfl) ?_
              refine m_s 2 [(false, 9)] 1023 (by kernel_rfl) HS.out ?_
              have GEg4b := Lib.hid HG.out.b.size
              have APg4b := Lib.hid HG.out.h.apart
              replace HG := Lib.hid (HG.out.new (spC noT ⟨#[]⟩) 64)
              have HS := Lib.hid (HG.out.h.tail.tail)
              refine sq_alloc (some 10) 64 (spC noT ⟨#[]⟩) (by kernel_rfl) (by kernel_rfl) (by kernel_rfl) (by kernel_rfl) (zero_sp _) HS.out ?_
              generalize v412.alloc _ = u413 at *
              generalize v412.heap.size = g4b at *
              refine sq_done ?_
              refine m_s 1 [(false, 10)] 2047 (by kernel_rfl) HS.out ?_
              replace HG := Lib.hid (HG.out.sub (L' := [(g4a, spC noT ⟨#[]⟩, 64), (g4b, spC noT ⟨#[]⟩, 64), (g, C, 43), (w.heap.size + 1, tpT (z2, x2, y2), 25), (w.heap.size, tpT (z1, x1, y1), 25)]) (fun q hq => mem_front 1 hq))
              have HN := Lib.hid (HG.out.h _ (.head _))
              replace HG := Lib.hid (HG.out.putAt GEg4a.out (fun q hq => by simp only [List.mem_cons, List.not_mem_nil, or_false] at hq; rcases hq with rfl | rfl | rfl | rfl; exact (APg4b.out (g4a, spC noT ⟨#[]⟩, 64) (.head _)).symm; exact APg4a.out (g, C, 43) (.head _); exact APg4a.out (w.heap.size + 1, tpT (z2, x2, y2), 25) (.tail _ (.head _)); exact APg4a.out (w.heap.size, tpT (z1, x1, y1), 25) (.tail _ (.tail _ (.head _)))) (spC (z1, x1, y1) tp))
              have HS := Lib.hid (HG.out.h.tail.tail)
              refine sq_st 64 g4a (spC (z1, x1, y1) tp) HN.out Tryz.infoSP rfl (by kernel_rfl) HS.out (by kernel_rfl) ?_
              clear HN
              generalize World.setRow _ g4a _ = t414 at *
              refine sq_done ?_
              refine m_s 0 [(false, 11)] 4095 (by kernel_rfl) HS.out ?_
              replace HG := Lib.hid (HG.out.sub (L' := [(g4b, spC noT ⟨#[]⟩, 64), (g4a, spC (z1, x1, y1) tp, 64), (g, C, 43), (w.heap.size + 1, tpT (z2, x2, y2), 25), (w.heap.size, tpT (z1, x1, y1), 25)]) (fun q hq => mem_front 1 hq))
              have HN := Lib.hid (HG.out.h _ (.head _))
              replace HG := Lib.hid (HG.out.putAt GEg4b.out (fun q hq => by simp only [List.mem_cons, List.not_mem_nil, or_false] at hq; rcases hq with rfl | rfl | rfl | rfl; exact APg4b.out (g4a, spC noT ⟨#[]⟩, 64) (.head _); exact APg4b.out (g, C, 43) (.tail _ (.head _)); exact APg4b.out (w.heap.size + 1, tpT (z2, x2, y2), 25) (.tail _ (.tail _ (.head _))); exact APg4b.out (w.heap.size, tpT (z1, x1, y1), 25) (.tail _ (.tail _ (.tail _ (.head _))))) (spC (z2, x2, y2) tp))
              have HS := Lib.hid (HG.out.h.tail.tail)
              refine sq_st 64 g4b (spC (z2, x2, y2) tp) HN.out Tryz.infoSP rfl (by kernel_rfl) HS.out (by kernel_rfl) ?_
              clear HN
              generalize World.setRow _ g4b _ = t415 at *
              refine sq_done ?_
              refine m_fin (by kernel_rfl) ?_
              exact ⟨rfl, g4a, g4b, by kernel_rfl, HG.out⟩
            · have GEg4b := Lib.hid HG.out.b.size
              have APg4b := Lib.hid HG.out.h.apart
              replace HG := Lib.hid (HG.out.new (spC noT ⟨#[]⟩) 64)
              have HS := Lib.hid (HG.out.h.tail.tail)
              refine sq_alloc (some 10) 64 (spC noT ⟨#[]⟩) (by kernel_rfl) (by kernel_rfl) (by kernel_rfl) (by kernel_rfl) (zero_sp _) HS.out ?_
              generalize u411.alloc _ = u416 at *
              generalize u411.heap.size = g4b at *
              refine sq_done ?_
              refine m_mask (M' := 895) (by kernel_rfl) ?_
              refine m_s 2 [(false, 7)] 1023 (by kernel_rfl) HS.out ?_
              refine sq_c (some 35) Tryz.func33 (spotOf_i (z2, x2, y2) tp _) (by kernel_rfl) ?_
              rintro e v417 ⟨rfl, bw⟩
              replace HG := Lib.hid (HG.out.on bw)
              have HS := Lib.hid (HG.out.h.tail.tail)
              clear bw
              refine ⟨_, rfl, HS.out, ?_⟩
              refine sq_done ?_
              refine m_s 1 [(false, 10)] 2047 (by kernel_rfl) HS.out ?_
              replace HG := Lib.hid (HG.out.sub (L' := [(g4a, spC noT ⟨#[]⟩, 64), (g4b, spC noT ⟨#[]⟩, 64), (g, C, 43), (w.heap.size + 1, tpT (z2, x2, y2), 25), (w.heap.size, tpT (z1, x1, y1), 25)]) (fun q hq => mem_front 1 hq))
              have HN := Lib.hid (HG.out.h _ (.head _))
              replace HG := Lib.hid (HG.out.putAt GEg4a.out (fun q hq => by simp only [List.mem_cons, List.not_mem_nil, or_false] at hq; rcases hq with rfl | rfl | rfl | rfl; exact (APg4b.out (g4a, spC noT ⟨#[]⟩, 64) (.head _)).symm; exact APg4a.out (g, C, 43) (.head _); exact APg4a.out (w.heap.size + 1, tpT (z2, x2, y2), 25) (.tail _ (.head _)); exact APg4a.out (w.heap.size, tpT (z1, x1, y1), 25) (.tail _ (.tail _ (.head _)))) (spC (z1, x1, y1) tp))
              have HS := Lib.hid (HG.out.h.tail.tail)
              refine sq_st 64 g4a (spC (z1, x1, y1) tp) HN.out Tryz.infoSP rfl (by kernel_rfl) HS.out (by kernel_rfl) ?_
              clear HN
              generalize World.setRow _ g4a _ = t418 at *
              refine sq_done ?_
              refine m_s 0 [(false, 11)] 4095 (by kernel_rfl) HS.out ?_
              replace HG := Lib.hid (HG.out.sub (L' := [(g4b, spC noT ⟨#[]⟩, 64), (g4a, spC (z1, x1, y1) tp, 64), (g, C, 43), (w.heap.size + 1, tpT (z2, x2, y2), 25), (w.heap.size, tpT (z1, x1, y1), 25)]) (fun q hq => mem_front 1 hq))
              have HN := Lib.hid (HG.out.h _ (.head _))
              replace HG := Lib.hid (HG.out.putAt GEg4b.out (fun q hq => by simp only [List.mem_cons, List.not_mem_nil, or_false] at hq; rcases hq with rfl | rfl | rfl | rfl; exact APg4b.out (g4a, spC noT ⟨#[]⟩, 64) (.head _); exact APg4b.out (g, C, 43) (.tail _ (.head _)); exact APg4b.out (w.heap.size + 1, tpT (z2, x2, y2), 25) (.tail _ (.tail _ (.head _))); exact APg4b.out (w.heap.size, tpT (z1, x1, y1), 25) (.tail _ (.tail _ (.tail _ (.head _))))) (spC (z2, x2, y2) tp))
              have HS := Lib.hid (HG.out.h.tail.tail)
              refine sq_st 64 g4b (spC (z2, x2, y2) tp) HN.out Tryz.infoSP rfl (by kernel_rfl) HS.out (by kernel_rfl) ?_
              clear HN
              generalize World.setRow _ g4b _ = t419 at *
              refine sq_done ?_
              refine m_fin (by kernel_rfl) ?_
              exact ⟨rfl, g4a, g4b, by kernel_rfl, HG.out⟩
          · have GEg4b := Lib.hid HG.out.b.size
            have APg4b := Lib.hid HG.out.h.apart
            replace HG := Lib.hid (HG.out.new (spC noT ⟨#[]⟩) 64)
            have HS := Lib.hid (HG.out.h.tail)
            refine sq_alloc (some 10) 64 (spC noT ⟨#[]⟩) (by kernel_rfl) (by kernel_rfl) (by kernel_rfl) (by kernel_rfl) (zero_sp _) HS.out ?_
            generalize v401.alloc _ = u420 at *
            generalize v401.heap.size = g4b at *
            refine sq_done ?_
            refine m_mask (M' := 639) (by kernel_rfl) ?_
            refine m_w 3 [7, 8] (by kernel_rfl) ?_
            intro i hi
            rcases (by simpa using hi : i = 7 ∨ i = 8) with rfl | rfl
            · refine sq_c (some 35) Tryz.func33 (spotOf_i (z2, x2, y2) tp _) (by kernel_rfl) ?_
              rintro e v421 ⟨rfl, bw⟩
              replace HG := Lib.hid (HG.out.on bw)
              have HS := Lib.hid (HG.out.h.tail)
              clear bw
              refine ⟨_, rfl, HS.out, ?_⟩
              refine sq_done ?_
              refine m_mask (M' := 767) (by kernel_rfl) ?_
              refine m_s 2 [(false, 8)] 1023 (by kernel_rfl) HS.out ?_
              have GEg4a := Lib.hid HG.out.b.size
              have APg4a := Lib.hid HG.out.h.apart
              replace HG := Lib.hid (HG.out.new (spC noT ⟨#[]⟩) 64)
              have HS := Lib.hid (HG.out.h.tail.tail)
              refine sq_alloc (some 9) 64 (spC noT ⟨#[]⟩) (by kernel_rfl) (by kernel_rfl) (by kernel_rfl) (by kernel_rfl) (zero_sp _) HS.out ?_
              generalize v421.alloc _ = u422 at *
              generalize v421.heap.size = g4a at *
              refine sq_done ?_
              refine m_s 1 [(false, 10)] 2047 (by kernel_rfl) HS.out ?_
              have HN := Lib.hid (HG.out.h _ (.head _))
              replace HG := Lib.hid (HG.out.putAt GEg4a.out APg4a.out (spC (z1, x1, y1) tp))
              have HS := Lib.hid (HG.out.h.tail.tail)
              refine sq_st 64 g4a (spC (z1, x1, y1) tp) HN.out Tryz.infoSP rfl (by kernel_rfl) HS.out (by kernel_rfl) ?_
              clear HN
              generalize World.setRow _ g4a _ = t423 at *
              refine sq_done ?_
              refine m_s 0 [(false, 11)] 4095 (by kernel_rfl) HS.out ?_
              replace HG := Lib.hid (HG.out.sub (L' := [(g4b, spC noT ⟨#[]⟩, 64), (g4a, spC (z1, x1, y1) tp, 64), (g, C, 43), (w.heap.size + 1, tpT (z2, x2, y2), 25), (w.heap.size, tpT (z1, x1, y1), 25)]) (fun q hq => mem_front 1 hq))
              have HN := Lib.hid (HG.out.h _ (.head _))
              replace HG := Lib.hid (HG.out.putAt GEg4b.out (fun q hq => by simp only [List.mem_cons, List.not_mem_nil, or_false] at hq; rcases hq with rfl | rfl | rfl | rfl; exact (APg4a.out (g4b, spC noT ⟨#[]⟩, 64) (.head _)).symm; exact APg4b.out (g, C, 43) (.head _); exact APg4b.out (w.heap.size + 1, tpT (z2, x2, y2), 25) (.tail _ (.head _)); exact APg4b.out (w.heap.size, tpT (z1, x1, y1), 25) (.tail _ (.tail _ (.head _)))) (spC (z2, x2, y2) tp))
              have HS := Lib.hid (HG.out.h.tail.tail)
              refine sq_st 64 g4b (spC (z2, x2, y2) tp) HN.out Tryz.infoSP rfl (by kernel_rfl) HS.out (by kernel_rfl) ?_
              clear HN
              generalize World.setRow _ g4b _ = t424 at *
              refine sq_done ?_
              refine m_fin (by kernel_rfl) ?_
              exact ⟨rfl, g4a, g4b, by kernel_rfl, HG.out⟩
            · have GEg4a := Lib.hid HG.out.b.size
              have APg4a := Lib.hid HG.out.h.apart
              replace HG := Lib.hid (HG.out.new (spC noT ⟨#[]⟩) 64)
              have HS := Lib.hid (HG.out.h.tail.tail)
              refine sq_alloc (some 9) 64 (spC noT ⟨#[]⟩) (by kernel_rfl) (by kernel_rfl) (by kernel_rfl) (by kernel_rfl) (zero_sp _) HS.out ?_
              generalize u420.alloc _ = u425 at *
              generalize u420.heap.size = g4a at *
              refine sq_done ?_
              refine m_mask (M' := 895) (by kernel_rfl) ?_
              refine m_s 2 [(false, 7)] 1023 (by kernel_rfl) HS.out ?_
              refine sq_c (some 35) Tryz.func33 (spotOf_i (z2, x2, y2) tp _) (by kernel_rfl) ?_
              rintro e v426 ⟨rfl, bw⟩
              replace HG := Lib.hid (HG.out.on bw)
              have HS := Lib.hid (HG.out.h.tail.tail)
              clear bw
              refine ⟨_, rfl, HS.out, ?_⟩
              refine sq_done ?_
              refine m_s 1 [(false, 10)] 2047 (by kernel_rfl) HS.out ?_
              have HN := Lib.hid (HG.out.h _ (.head _))
              replace HG := Lib.hid (HG.out.putAt GEg4a.out APg4a.out (spC (z1, x1, y1) tp))
              have HS := Lib.hid (HG.out.h.tail.tail)
              refine sq_st 64 g4a (spC (z1, x1, y1) tp) HN.out Tryz.infoSP rfl (by kernel_rfl) HS.out (by kernel_rfl) ?_
              clear HN
              generalize World.setRow _ g4a _ = t427 at *
              refine sq_done ?_
              refine m_s 0 [(false, 11)] 4095 (by kernel_rfl) HS.out ?_
              replace HG := Lib.hid (HG.out.sub (L' := [(g4b, spC noT ⟨#[]⟩, 64), (g4a, spC (z1, x1, y1) tp, 64), (g, C, 43), (w.heap.size + 1, tpT (z2, x2, y2), 25), (w.heap.size, tpT (z1, x1, y1), 25)]) (fun q hq => mem_front 1 hq))
              have HN := Lib.hid (HG.out.h _ (.head _))
              replace HG := Lib.hid (HG.out.putAt GEg4b.out (fun q hq => by simp only [List.mem_cons, List.not_mem_nil, or_false] at hq; rcases hq with rfl | rfl | rfl | rfl; exact (APg4a.out (g4b, spC noT ⟨#[]⟩, 64) (.head _)).symm; exact APg4b.out (g, C, 43) (.head _); exact APg4b.out (w.heap.size + 1, tpT (z2, x2, y2), 25) (.tail _ (.head _)); exact APg4b.out (w.heap.size, tpT (z1, x1, y1), 25) (.tail _ (.tail _ (.head _)))) (spC (z2, x2, y2) tp))
              have HS := Lib.hid (HG.out.h.tail.tail)
              refine sq_st 64 g4b (spC (z2, x2, y2) tp) HN.out Tryz.infoSP rfl (by kernel_rfl) HS.out (by kernel_rfl) ?_
              clear HN
              generalize World.setRow _ g4b _ = t428 at *
              refine sq_done ?_
              refine m_fin (by kernel_rfl) ?_
              exact ⟨rfl, g4a, g4b, by kernel_rfl, HG.out⟩
        · have GEg4a := Lib.hid HG.out.b.size
          have APg4a := Lib.hid HG.out.h.apart
          replace HG := Lib.hid (HG.out.new (spC noT ⟨#[]⟩) 64)
          have HS := Lib.hid (HG.out.h.tail)
          refine sq_alloc (some 9) 64 (spC noT ⟨#[]⟩) (by kernel_rfl) (by kernel_rfl) (by kernel_rfl) (by kernel_rfl) (zero_sp _) HS.out ?_
          generalize v400.alloc _ = u429 at *
          generalize v400.heap.size = g4a at *
          refine sq_done ?_
          refine m_mask (M' := 375) (by kernel_rfl) ?_
          refine m_w 4 [3, 9] (by kernel_rfl) ?_
          intro i hi
          rcases (by simpa using hi : i = 3 ∨ i = 9) with rfl | rfl
          · refine sq_c (some 31) Tryz.func33 (spotOf_i (z1, x1, y1) tp _) (by kernel_rfl) ?_
            rintro e v430 ⟨rfl, bw⟩
            replace HG := Lib.hid (HG.out.on bw)
            have HS := Lib.hid (HG.out.h.tail)
            clear bw
            refine ⟨_, rfl, HS.out, ?_⟩
            refine sq_done ?_
            refine m_mask (M' := 383) (by kernel_rfl) ?_
            refine m_w 3 [7, 9] (by kernel_rfl) ?_
            intro i hi
            rcases (by simpa using hi : i = 7 ∨ i = 9) with rfl | rfl
            · refine sq_c (some 35) Tryz.func33 (spotOf_i (z2, x2, y2) tp _) (by kernel_rfl) ?_
              rintro e v431 ⟨rfl, bw⟩
              replace HG := Lib.hid (HG.out.on bw)
              have HS := Lib.hid (HG.out.h.tail)
              clear bw
              refine ⟨_, rfl, HS.out, ?_⟩
              refine sq_done ?_
              refine m_mask (M' := 511) (by kernel_rfl) ?_
              refine m_s 2 [(false, 9)] 1023 (by kernel_rfl) HS.out ?_
              have GEg4b := Lib.hid HG.out.b.size
              have APg4b := Lib.hid HG.out.h.apart
              replace HG := Lib.hid (HG.out.new (spC noT ⟨#[]⟩) 64)
              have HS := Lib.hid (HG.out.h.tail.tail)
              refine sq_alloc (some 10) 64 (spC noT ⟨#[]⟩) (by kernel_rfl) (by kernel_rfl) (by kernel_rfl) (by kernel_rfl) (zero_sp _) HS.out ?_
              generalize v431.alloc _ = u432 at *
              generalize v431.heap.size = g4b at *
              refine sq_done ?_
              refine m_s 1 [(false, 10)] 2047 (by kernel_rfl) HS.out ?_
              replace HG := Lib.hid (HG.out.sub (L' := [(g4a, spC noT ⟨#[]⟩, 64), (g4b, spC noT ⟨#[]⟩, 64), (g, C, 43), (w.heap.size + 1, tpT (z2, x2, y2), 25), (w.heap.size, tpT (z1, x1, y1), 25)]) (fun q hq => mem_front 1 hq))
              have HN := Lib.hid (HG.out.h _ (.head _))
              replace HG := Lib.hid (HG.out.putAt GEg4a.out (fun q hq => by simp only [List.mem_cons, List.not_mem_nil, or_false] at hq; rcases hq with rfl | rfl | rfl | rfl; exact (APg4b.out (g4a, spC noT ⟨#[]⟩, 64) (.head _)).symm; exact APg4a.out (g, C, 43) (.head _); exact APg4a.out (w.heap.size + 1, tpT (z2, x2, y2), 25) (.tail _ (.head _)); exact APg4a.out (w.heap.size, tpT (z1, x1, y1), 25) (.tail _ (.tail _ (.head _)))) (spC (z1, x1, y1) tp))
              have HS := Lib.hid (HG.out.h.tail.tail)
              refine sq_st 64 g4a (spC (z1, x1, y1) tp) HN.out Tryz.infoSP rfl (by kernel_rfl) HS.out (by kernel_rfl) ?_
              clear HN
              generalize World.setRow _ g4a _ = t433 at *
              refine sq_done ?_
              refine m_s 0 [(false, 11)] 4095 (by kernel_rfl) HS.out ?_
              replace HG := Lib.hid (HG.out.sub (L' := [(g4b, spC noT ⟨#[]⟩, 64), (g4a, spC (z1, x1, y1) tp, 64), (g, C, 43), (w.heap.size + 1, tpT (z2, x2, y2), 25), (w.heap.size, tpT (z1, x1, y1), 25)]) (fun q hq => mem_front 1 hq))
              have HN := Lib.hid (HG.out.h _ (.head _))
              replace HG := Lib.hid (HG.out.putAt GEg4b.out (fun q hq => by simp only [List.mem_cons, List.not_mem_nil, or_false] at hq; rcases hq with rfl | rfl | rfl | rfl; exact APg4b.out (g4a, spC noT ⟨#[]⟩, 64) (.head _); exact APg4b.out (g, C, 43) (.tail _ (.head _)); exact APg4b.out (w.heap.size + 1, tpT (z2, x2, y2), 25) (.tail _ (.tail _ (.head _))); exact APg4b.out (w.heap.size, tpT (z1, x1, y1), 25) (.tail _ (.tail _ (.tail _ (.head _))))) (spC (z2, x2, y2) tp))
              have HS := Lib.hid (HG.out.h.tail.tail)
              refine sq_st 64 g4b (spC (z2, x2, y2) tp) HN.out Tryz.infoSP rfl (by kernel_rfl) HS.out (by kernel_rfl) ?_
              clear HN
              generalize World.setRow _ g4b _ = t434 at *
              refine sq_done ?_
              refine m_fin (by kernel_rfl) ?_
              exact ⟨rfl, g4a, g4b, by kernel_rfl, HG.out⟩
            · have GEg4b := Lib.hid HG.out.b.size
              have APg4b := Lib.hid HG.out.h.apart
              replace HG := Lib.hid (HG.out.new (spC noT ⟨#[]⟩) 64)
              have HS := Lib.hid (HG.out.h.tail.tail)
              refine sq_alloc (some 10) 64 (spC noT ⟨#[]⟩) (by kernel_rfl) (by kernel_rfl) (by kernel_rfl) (by kernel_rfl) (zero_sp _) HS.out ?_
              generalize v430.alloc _ = u435 at *
              generalize v430.heap.size = g4b at *
              refine sq_done ?_
              refine m_mask (M' := 895) (by kernel_rfl) ?_
              refine m_s 2 [(false, 7)] 1023 (by kernel_rfl) HS.out ?_
              refine sq_c (some 35) Tryz.func33 (spotOf_i (z2, x2, y2) tp _) (by kernel_rfl) ?_
              rintro e v436 ⟨rfl, bw⟩
              replace HG := Lib.hid (HG.out.on bw)
              have HS := Lib.hid (HG.out.h.tail.tail)
              clear bw
              refine ⟨_, rfl, HS.out, ?_⟩
              refine sq_done ?_
              refine m_s 1 [(false, 10)] 2047 (by kernel_rfl) HS.out ?_
              replace HG := Lib.hid (HG.out.sub (L' := [(g4a, spC noT ⟨#[]⟩, 64), (g4b, spC noT ⟨#[]⟩, 64), (g, C, 43), (w.heap.size + 1, tpT (z2, x2, y2), 25), (w.heap.size, tpT (z1, x1, y1), 25)]) (fun q hq => mem_front 1 hq))
              have HN := Lib.hid (HG.out.h _ (.head _))
              replace HG := Lib.hid (HG.out.putAt GEg4a.out (fun q hq => by simp only [List.mem_cons, List.not_mem_nil, or_false] at hq; rcases hq with rfl | rfl | rfl | rfl; exact (APg4b.out (g4a, spC noT ⟨#[]⟩, 64) (.head _)).symm; exact APg4a.out (g, C, 43) (.head _); exact APg4a.out (w.heap.size + 1, tpT (z2, x2, y2), 25) (.tail _ (.head _)); exact APg4a.out (w.heap.size, tpT (z1, x1, y1), 25) (.tail _ (.tail _ (.head _)))) (spC (z1, x1, y1) tp))
              have HS := Lib.hid (HG.out.h.tail.tail)
              refine sq_st 64 g4a (spC (z1, x1, y1) tp) HN.out Tryz.infoSP rfl (by kernel_rfl) HS.out (by kernel_rfl) ?_
              clear HN
              generalize World.setRow _ g4a _ = t437 at *
              refine sq_done ?_
              refine m_s 0 [(false, 11)] 4095 (by kernel_rfl) HS.out ?_
              replace HG := Lib.hid (HG.out.sub (L' := [(g4b, spC noT ⟨#[]⟩, 64), (g4a, spC (z1, x1, y1) tp, 64), (g, C, 43), (w.heap.size + 1, tpT (z2, x2, y2), 25), (w.heap.size, tpT (z1, x1, y1), 25)]) (fun q hq => mem_front 1 hq))
              have HN := Lib.hid (HG.out.h _ (.head _))
              replace HG := Lib.hid (HG.out.putAt GEg4b.out (fun q hq => by simp only [List.mem_cons, List.not_mem_nil, or_false] at hq; rcases hq with rfl | rfl | rfl | rfl; exact APg4b.out (g4a, spC noT ⟨#[]⟩, 64) (.head _); exact APg4b.out (g, C, 43) (.tail _ (.head _)); exact APg4b.out (w.heap.size + 1, tpT (z2, x2, y2), 25) (.tail _ (.tail _ (.head _))); exact APg4b.out (w.heap.size, tpT (z1, x1, y1), 25) (.tail _ (.tail _ (.tail _ (.head _))))) (spC (z2, x2, y2) tp))
              have HS := Lib.hid (HG.out.h.tail.tail)
              refine sq_st 64 g4b (spC (z2, x2, y2) tp) HN.out Tryz.infoSP rfl (by kernel_rfl) HS.out (by kernel_rfl) ?_
              clear HN
              generalize World.setRow _ g4b _ = t438 at *
              refine sq_done ?_
              refine m_fin (by kernel_rfl) ?_
              exact ⟨rfl, g4a, g4b, by kernel_rfl, HG.out⟩
          · have GEg4b := Lib.hid HG.out.b.size
            have APg4b := Lib.hid HG.out.h.apart
            replace HG := Lib.hid (HG.out.new (spC noT ⟨#[]⟩) 64)
            have HS := Lib.hid (HG.out.h.tail.tail)
            refine sq_alloc (some 10) 64 (spC noT ⟨#[]⟩) (by kernel_rfl) (by kernel_rfl) (by kernel_rfl) (by kernel_rfl) (zero_sp _) HS.out ?_
            generalize u429.alloc _ = u439 at *
            generalize u429.heap.size = g4b at *
            refine sq_done ?_
            refine m_mask (M' := 887) (by kernel_rfl) ?_
            refine m_s 3 [(false, 3)] 895 (by kernel_rfl) HS.out ?_
            refine sq_c (some 31) Tryz.func33 (spotOf_i (z1, x1, y1) tp _) (by kernel_rfl) ?_
            rintro e v440 ⟨rfl, bw⟩
            replace HG := Lib.hid (HG.out.on bw)
            have HS := Lib.hid (HG.out.h.tail.tail)
            clear bw
            refine ⟨_, rfl, HS.out, ?_⟩
            refine sq_done ?_
            refine m_s 2 [(false, 7)] 1023 (by kernel_rfl) HS.out ?_
            refine sq_c (some 35) Tryz.func33 (spotOf_i (z2, x2, y2) tp _) (by kernel_rfl) ?_
            rintro e v441 ⟨rfl, bw⟩
            replace HG := Lib.hid (HG.out.on bw)
            have HS := Lib.hid (HG.out.h.tail.tail)
            clear bw
            refine ⟨_, rfl, HS.out, ?_⟩
            refine sq_done ?_
            refine m_s 1 [(false, 10)] 2047 (by kernel_rfl) HS.out ?_
            replace HG := Lib.hid (HG.out.sub (L' := [(g4a, spC noT ⟨#[]⟩, 64), (g4b, spC noT ⟨#[]⟩, 64), (g, C, 43), (w.heap.size + 1, tpT (z2, x2, y2), 25), (w.heap.size, tpT (z1, x1, y1), 25)]) (fun q hq => mem_front 1 hq))
            have HN := Lib.hid (HG.out.h _ (.head _))
            replace HG := Lib.hid (HG.out.putAt GEg4a.out (fun q hq => by simp only [List.mem_cons, List.not_mem_nil, or_false] at hq; rcases hq with rfl | rfl | rfl | rfl; exact (APg4b.out (g4a, spC noT ⟨#[]⟩, 64) (.head _)).symm; exact APg4a.out (g, C, 43) (.head _); exact APg4a.out (w.heap.size + 1, tpT (z2, x2, y2), 25) (.tail _ (.head _)); exact APg4a.out (w.heap.size, tpT (z1, x1, y1), 25) (.tail _ (.tail _ (.head _)))) (spC (z1, x1, y1) tp))
            have HS := Lib.hid (HG.out.h.tail.tail)
            refine sq_st 64 g4a (spC (z1, x1, y1) tp) HN.out Tryz.infoSP rfl (by kernel_rfl) HS.out (by kernel_rfl) ?_
            clear HN
            generalize World.setRow _ g4a _ = t442 at *
            refine sq_done ?_
            refine m_s 0 [(false, 11)] 4095 (by kernel_rfl) HS.out ?_
            replace HG := Lib.hid (HG.out.sub (L' := [(g4b, spC noT ⟨#[]⟩, 64), (g4a, spC (z1, x1, y1) tp, 64), (g, C, 43), (w.heap.size + 1, tpT (z2, x2, y2), 25), (w.heap.size, tpT (z1, x1, y1), 25)]) (fun q hq => mem_front 1 hq))
            have HN := Lib.hid (HG.out.h _ (.head _))
            replace HG := Lib.hid (HG.out.putAt GEg4b.out (fun q hq => by simp only [List.mem_cons, List.not_mem_nil, or_false] at hq; rcases hq with rfl | rfl | rfl | rfl; exact APg4b.out (g4a, spC noT ⟨#[]⟩, 64) (.head _); exact APg4b.out (g, C, 43) (.tail _ (.head _)); exact APg4b.out (w.heap.size + 1, tpT (z2, x2, y2), 25) (.tail _ (.tail _ (.head _))); exact APg4b.out (w.heap.size, tpT (z1, x1, y1), 25) (.tail _ (.tail _ (.tail _ (.head _))))) (spC (z2, x2, y2) tp))
            have HS := Lib.hid (HG.out.h.tail.tail)
            refine sq_st 64 g4b (spC (z2, x2, y2) tp) HN.out Tryz.infoSP rfl (by kernel_rfl) HS.out (by kernel_rfl) ?_
            clear HN
            generalize World.setRow _ g4b _ = t443 at *
            refine sq_done ?_
            refine m_fin (by kernel_rfl) ?_
            exact ⟨rfl, g4a, g4b, by kernel_rfl, HG.out⟩
        · have GEg4b := Lib.hid HG.out.b.size
          have APg4b := Lib.hid HG.out.h.apart
          replace HG := Lib.hid (HG.out.new (spC noT ⟨#[]⟩) 64)
          have HS := Lib.hid (HG.out.h.tail)
          refine sq_alloc (some 10) 64 (spC noT ⟨#[]⟩) (by kernel_rfl) (by kernel_rfl) (by kernel_rfl) (by kernel_rfl) (zero_sp _) HS.out ?_
          generalize v400.alloc _ = u444 at *
          generalize v400.heap.size = g4b at *
          refine sq_done ?_
          refine m_mask (M' := 631) (by kernel_rfl) ?_
          refine m_w 4 [3, 8] (by kernel_rfl) ?_
          intro i hi
          rcases (by simpa using hi : i = 3 ∨ i = 8) with rfl | rfl
          · refine sq_c (some 31) Tryz.func33 (spotOf_i (z1, x1, y1) tp _) (by kernel_rfl) ?_
            rintro e v445 ⟨rfl, bw⟩
            replace HG := Lib.hid (HG.out.on bw)
            have HS := Lib.hid (HG.out.h.tail)
            clear bw
            refine ⟨_, rfl, HS.out, ?_⟩
            refine sq_done ?_
            refine m_mask (M' := 639) (by kernel_rfl) ?_
            refine m_w 3 [7, 8] (by kernel_rfl) ?_
            intro i hi
            rcases (by simpa using hi : i = 7 ∨ i = 8) with rfl | rfl
            · refine sq_c (some 35) Tryz.func33 (spotOf_i (z2, x2, y2) tp _) (by kernel_rfl) ?_
              rintro e v446 ⟨rfl, bw⟩
              replace HG := Lib.hid (HG.out.on bw)
              have HS := Lib.hid (HG.out.h.tail)
              clear bw
              refine ⟨_, rfl, HS.out, ?_⟩
              refine sq_done ?_
              refine m_mask (M' := 767) (by kernel_rfl) ?_
              refine m_s 2 [(false, 8)] 1023 (by kernel_rfl) HS.out ?_
              have GEg4a := Lib.hid HG.out.b.size
              have APg4a := Lib.hid HG.out.h.apart
              replace HG := Lib.hid (HG.out.new (spC noT ⟨#[]⟩) 64)
              have HS := Lib.hid (HG.out.h.tail.tail)
              refine sq_alloc (some 9) 64 (spC noT ⟨#[]⟩) (by kernel_rfl) (by kernel_rfl) (by kernel_rfl) (by kernel_rfl) (zero_sp _) HS.out ?_
              generalize v446.alloc _ = u447 at *
              generalize v446.heap.size = g4a at *
              refine sq_done ?_
              refine m_s 1 [(false, 10)] 2047 (by kernel_rfl) HS.out ?_
              have HN := Lib.hid (HG.out.h _ (.head _))
              replace HG := Lib.hid (HG.out.putAt GEg4a.out APg4a.out (spC (z1, x1, y1) tp))
              have HS := Lib.hid (HG.out.h.tail.tail)
              refine sq_st 64 g4a (spC (z1, x1, y1) tp) HN.out Tryz.infoSP rfl (by kernel_rfl) HS.out (by kernel_rfl) ?_
              clear HN
              generalize World.setRow _ g4a _ = t448 at *
              refine sq_done ?_
              refine m_s 0 [(false, 11)] 4095 (by kernel_rfl) HS.out ?_
              replace HG := Lib.hid (HG.out.sub (L' := [(g4b, spC noT ⟨#[]⟩, 64), (g4a, spC (z1, x1, y1) tp, 64), (g, C, 43), (w.heap.size + 1, tpT (z2, x2, y2), 25), (w.heap.size, tpT (z1, x1, y1), 25)]) (fun q hq => mem_front 1 hq))
              have HN := Lib.hid (HG.out.h _ (.head _))
              replace HG := Lib.hid (HG.out.putAt GEg4b.out (fun q hq => by simp only [List.mem_cons, List.not_mem_nil, or_false] at hq; rcases hq with rfl | rfl | rfl | rfl; exact (APg4a.out (g4b, spC noT ⟨#[]⟩, 64) (.head _)).symm; exact APg4b.out (g, C, 43) (.head _); exact APg4b.out (w.heap.size + 1, tpT (z2, x2, y2), 25) (.tail _ (.head _)); exact APg4b.out (w.heap.size, tpT (z1, x1, y1), 25) (.tail _ (.tail _ (.head _)))) (spC (z2, x2, y2) tp))
              have HS := Lib.hid (HG.out.h.tail.tail)
              refine sq_st 64 g4b (spC (z2, x2, y2) tp) HN.out Tryz.infoSP rfl (by kernel_rfl) HS.out (by kernel_rfl) ?_
              clear HN
              generalize World.setRow _ g4b _ = t449 at *
              refine sq_done ?_
              refine m_fin (by kernel_rfl) ?_
              exact ⟨rfl, g4a, g4b, by kernel_rfl, HG.out⟩
            · have GEg4a := Lib.hid HG.out.b.size
              have APg4a := Lib.hid HG.out.h.apart
              replace HG := Lib.hid (HG.out.new (spC noT ⟨#[]⟩) 64)
              have HS := Lib.hid (HG.out.h.tail.tail)
              refine sq_alloc (some 9) 64 (spC noT ⟨#[]⟩) (by kernel_rfl) (by kernel_rfl) (by kernel_rfl) (by kernel_rfl) (zero_sp _) HS.out ?_
              generalize v445.alloc _ = u450 at *
              generalize v445.heap.size = g4a at *
              refine sq_done ?_
              refine m_mask (M' := 895) (by kernel_rfl) ?_
              refine m_s 2 [(false, 7)] 1023 (by kernel_rfl) HS.out ?_
              refine sq_c (some 35) Tryz.func33 (spotOf_i (z2, x2, y2) tp _) (by kernel_rfl) ?_
              rintro e v451 ⟨rfl, bw⟩
              replace HG := Lib.hid (HG.out.on bw)
              have HS := Lib.hid (HG.out.h.tail.tail)
              clear bw
              refine ⟨_, rfl, HS.out, ?_⟩
              refine sq_done ?_
              refine m_s 1 [(false, 10)] 2047 (by kernel_rfl) HS.out ?_
              have HN := Lib.hid (HG.out.h _ (.head _))
              replace HG := Lib.hid (HG.out.putAt GEg4a.out APg4a.out (spC (z1, x1, y1) tp))
              have HS := Lib.hid (HG.out.h.tail.tail)
              refine sq_st 64 g4a (spC (z1, x1, y1) tp) HN.out Tryz.infoSP rfl (by kernel_rfl) HS.out (by kernel_rfl) ?_
              clear HN
              generalize World.setRow _ g4a _ = t452 at *
              refine sq_done ?_
              refine m_s 0 [(false, 11)] 4095 (by kernel_rfl) HS.out ?_
              replace HG := Lib.hid (HG.out.sub (L' := [(g4b, spC noT ⟨#[]⟩, 64), (g4a, spC (z1, x1, y1) tp, 64), (g, C, 43), (w.heap.size + 1, tpT (z2, x2, y2), 25), (w.heap.size, tpT (z1, x1, y1), 25)]) (fun q hq => mem_front 1 hq))
              have HN := Lib.hid (HG.out.h _ (.head _))
              replace HG := Lib.hid (HG.out.putAt GEg4b.out (fun q hq => by simp only [List.mem_cons, List.not_mem_nil, or_false] at hq; rcases hq with rfl | rfl | rfl | rfl; exact (APg4a.out (g4b, spC noT ⟨#[]⟩, 64) (.head _)).symm; exact APg4b.out (g, C, 43) (.head _); exact APg4b.out (w.heap.size + 1, tpT (z2, x2, y2), 25) (.tail _ (.head _)); exact APg4b.out (w.heap.size, tpT (z1, x1, y1), 25) (.tail _ (.tail _ (.head _)))) (spC (z2, x2, y2) tp))
              have HS := Lib.hid (HG.out.h.tail.tail)
              refine sq_st 64 g4b (spC (z2, x2, y2) tp) HN.out Tryz.infoSP rfl (by kernel_rfl) HS.out (by kernel_rfl) ?_
              clear HN
              generalize World.setRow _ g4b _ = t453 at *
              refine sq_done ?_
              refine m_fin (by kernel_rfl) ?_
              exact ⟨rfl, g4a, g4b, by kernel_rfl, HG.out⟩
          · have GEg4a := Lib.hid HG.out.b.size
            have APg4a := Lib.hid HG.out.h.apart
            replace HG := Lib.hid (HG.out.new (spC noT ⟨#[]⟩) 64)
            have HS := Lib.hid (HG.out.h.tail.tail)
            refine sq_alloc (some 9) 64 (spC noT ⟨#[]⟩) (by kernel_rfl) (by kernel_rfl) (by kernel_rfl) (by kernel_rfl) (zero_sp _) HS.out ?_
            generalize u444.alloc _ = u454 at *
            generalize u444.heap.size = g4a at *
            refine sq_done ?_
            refine m_mask (M' := 887) (by kernel_rfl) ?_
            refine m_s 3 [(false, 3)] 895 (by kernel_rfl) HS.out ?_
            refine sq_c (some 31) Tryz.func33 (spotOf_i (z1, x1, y1) tp _) (by kernel_rfl) ?_
            rintro e v455 ⟨rfl, bw⟩
            replace HG := Lib.hid (HG.out.on bw)
            have HS := Lib.hid (HG.out.h.tail.tail)
            clear bw
            refine ⟨_, rfl, HS.out, ?_⟩
            refine sq_done ?_
            refine m_s 2 [(false, 7)] 1023 (by kernel_rfl) HS.out ?_
            refine sq_c (some 35) Tryz.func33 (spotOf_i (z2, x2, y2) tp _) (by kernel_rfl) ?_
            rintro e v456 ⟨rfl, bw⟩
            replace HG := Lib.hid (HG.out.on bw)
            have HS := Lib.hid (HG.out.h.tail.tail)
            clear bw
            refine ⟨_, rfl, HS.out, ?_⟩
            refine sq_done ?_
            refine m_s 1 [(false, 10)] 2047 (by kernel_rfl) HS.out ?_
            have HN := Lib.hid (HG.out.h _ (.head _))
            replace HG := Lib.hid (HG.out.putAt GEg4a.out APg4a.out (spC (z1, x1, y1) tp))
            have HS := Lib.hid (HG.out.h.tail.tail)
            refine sq_st 64 g4a (spC (z1, x1, y1) tp) HN.out Tryz.infoSP rfl (by kernel_rfl) HS.out (by kernel_rfl) ?_
            clear HN
            generalize World.setRow _ g4a _ = t457 at *
            refine sq_done ?_
            refine m_s 0 [(false, 11)] 4095 (by kernel_rfl) HS.out ?_
            replace HG := Lib.hid (HG.out.sub (L' := [(g4b, spC noT ⟨#[]⟩, 64), (g4a, spC (z1, x1, y1) tp, 64), (g, C, 43), (w.heap.size + 1, tpT (z2, x2, y2), 25), (w.heap.size, tpT (z1, x1, y1), 25)]) (fun q hq => mem_front 1 hq))
            have HN := Lib.hid (HG.out.h _ (.head _))
            replace HG := Lib.hid (HG.out.putAt GEg4b.out (fun q hq => by simp only [List.mem_cons, List.not_mem_nil, or_false] at hq; rcases hq with rfl | rfl | rfl | rfl; exact (APg4a.out (g4b, spC noT ⟨#[]⟩, 64) (.head _)).symm; exact APg4b.out (g, C, 43) (.head _); exact APg4b.out (w.heap.size + 1, tpT (z2, x2, y2), 25) (.tail _ (.head _)); exact APg4b.out (w.heap.size, tpT (z1, x1, y1), 25) (.tail _ (.tail _ (.head _)))) (spC (z2, x2, y2) tp))
            have HS := Lib.hid (HG.out.h.tail.tail)
            refine sq_st 64 g4b (spC (z2, x2, y2) tp) HN.out Tryz.infoSP rfl (by kernel_rfl) HS.out (by kernel_rfl) ?_
            clear HN
            generalize World.setRow _ g4b _ = t458 at *
            refine sq_done ?_
            refine m_fin (by kernel_rfl) ?_
            exact ⟨rfl, g4a, g4b, by kernel_rfl, HG.out⟩
      rintro e a t4 ⟨rfl, g4a, g4b, rfl, hG⟩
      replace HG := Lib.hid hG
      clear hG
      refine (by assumption : ∀ (a : Act) (w_1 : World), Code.wp _ _ _ a w_1 → _) _ _ ?_
      go_upto_region 5 with (fail)
      replace HS := Lib.hid HG.out.h
      refine wp_region_line (S := fun w' => Held w' [(g4b, spC (z2, x2, y2) tp, 64), (g4a, spC (z1, x1, y1) tp, 64), (g, C, 43), (w.heap.size + 1, tpT (z2, x2, y2), 25), (w.heap.size, tpT (z1, x1, y1), 25)]) [(true, 0), (true, 1), (false, 2), (false, 3), (false, 4)] (by kernel_rfl) (by kernel_rfl) HS.out ?_
      refine sq_ld (some 36) (ld_sp (.tail _ (.head _)) (by kernel_rfl)) (by kernel_rfl) ?_
      refine sq_ld (some 37) (ld_sp (.head _) (by kernel_rfl)) (by kernel_rfl) ?_
      refine sq_c (some 38) Tryz.func34 (HSum.out _) (by kernel_rfl) ?_
      rintro e v5 ⟨⟨q, rfl⟩, bw⟩
      replace HG := Lib.hid (HG.out.on bw)
      have HS := Lib.hid (HG.out.h)
      clear bw
      refine ⟨_, rfl, HS.out, ?_⟩
      have GEg6 := Lib.hid HG.out.b.size
      have APg6 := Lib.hid HG.out.h.apart
      replace HG := Lib.hid (HG.out.new (spC noT ⟨#[]⟩) 64)
      have HS := Lib.hid (HG.out.h.tail)
      refine sq_alloc (some 11) 64 (spC noT ⟨#[]⟩) (by kernel_rfl) (by kernel_rfl) (by kernel_rfl) (by kernel_rfl) (zero_sp _) HS.out ?_
      generalize v5.alloc _ = u6 at *
      generalize v5.heap.size = g6 at *
      have HN := Lib.hid (HG.out.h _ (.head _))
      replace HG := Lib.hid (HG.out.putAt GEg6.out APg6.out (spC (sz, sx, sy) q))
      have HS := Lib.hid (HG.out.h.tail)
      refine sq_st 64 g6 (spC (sz, sx, sy) q) HN.out Tryz.infoSP rfl (by kernel_rfl) HS.out (by kernel_rfl) ?_
      clear HN
      generalize World.setRow _ g6 _ = t7 at *
      refine sq_fin { tmps := List.toArray (List.append [.int .i64 id, .agg (tpT (z1, x1, y1)), .agg (tpT (z2, x2, y2)), undef, .pointer (some ⟨w.heap.size, 0, none⟩), .pointer (some ⟨(w.heap.size + 1), 0, none⟩), .pointer (some ⟨(w.heap.size + 1 + 1), 0, none⟩), .pointer (some ⟨g, 0, none⟩), .bool true, .pointer (some ⟨g4a, 0, none⟩), .pointer (some ⟨g4b, 0, none⟩), .pointer (some ⟨g6, 0, none⟩), .int .i64 id, .agg (tpT (z1, x1, y1)), .bool true, .bool false, .bool false, .int .i64 id, .agg (tpT (z2, x2, y2)), .bool true, .bool false, .bool false, undef, .tuple #[.agg C, .bool true], .int .i64 id, .tuple #[.agg C, .bool true], .agg C, .bool true, .agg (tpT (z1, x1, y1)), .pointer (some ⟨g, 1, none⟩), .string tp, .agg (spC (z1, x1, y1) tp), .agg (tpT (z2, x2, y2)), .pointer (some ⟨g, 1, none⟩), .string tp, .agg (spC (z2, x2, y2) tp), .agg (spC (z1, x1, y1) tp), .agg (spC (z2, x2, y2) tp), .agg (spC (sz, sx, sy) q), undef] ([undef, undef, undef, undef, undef, undef, undef, undef])), defers := [] } (by kernel_rfl) ?_
      refine (by assumption : ∀ (a : Act) (w_1 : World), Code.wp _ _ _ a w_1 → _) _ _ ?_
      go_upto_region 6 with (fail)
      replace HS := Lib.hid HG.out.h
      refine wp_region_line (S := fun w' => Held w' [(g6, spC (sz, sx, sy) q, 64), (g4b, spC (z2, x2, y2) tp, 64), (g4a, spC (z1, x1, y1) tp, 64), (g, C, 43), (w.heap.size + 1, tpT (z2, x2, y2), 25), (w.heap.size, tpT (z1, x1, y1), 25)]) [(true, 0), (true, 1), (true, 2), (true, 3), (true, 4), (true, 5), (true, 6), (true, 7), (true, 8), (false, 9)] (by kernel_rfl) (by kernel_rfl) HS.out ?_
      refine sq_ps [(0, .pointer (some ⟨g6, 0, none⟩))] (by kernel_rfl) ?_
      refine sq_ld (some 40) (ld_b (.head _) (k := 0) rfl) (by kernel_rfl) ?_
      refine sq_ps [(2, .pointer (some ⟨g6, 1, none⟩)), (3, .pointer (some ⟨g6, 1, none⟩))] (by kernel_rfl) ?_
      refine sq_ld (some 43) (ld_s (.head _) (k := 1) rfl) (by kernel_rfl) ?_
      refine sq_ps [(5, .pointer (some ⟨g6, 3, none⟩)), (6, .pointer (some ⟨g6, 3, none⟩))] (by kernel_rfl) ?_
      refine sq_ld (some 46) (ld_s (.head _) (k := 3) rfl) (by kernel_rfl) ?_
      refine sq_pure (some 47) (.agg (tpT (sz, sx, sy))) (by kernel_rfl) (by kernel_rfl) (held_build 25 #[(0, (.tmp 40)), (1, (.tmp 43)), (2, (.tmp 46))] (by kernel_rfl) _ (by kernel_rfl) _ (built_pt3 _ _ _)) ?_
      have HE := Lib.hid (HG.out.put hge (tpT (sz, sx, sy)))
      refine sq_st 25 (w.heap.size + 1 + 1) (tpT (sz, sx, sy)) HG.out.out Tryz.infoPoint rfl (by kernel_rfl) ((HG.out.h).setRow (HG.out.ne)) (by kernel_rfl) ?_
      refine sq_done ?_
      refine (by assumption : ∀ (a : Act) (w_1 : World), Code.wp _ Code.ret _ a w_1 → _) _ _ ?_
      refine wp_ret ?_
      try refine then_ret ?_
      exact bodyPost_ret (results_cell_row Tryz.results9 _ _ (w.heap.size + 1 + 1) _ _ _ _ (by kernel_rfl) HE.out.out Tryz.underlying25 rfl Tryz.infoPoint) (by kernel_rfl) ⟨rfl, HE.out.b⟩
end Go.Proofs.YtkmmlfocidfghaaGreat

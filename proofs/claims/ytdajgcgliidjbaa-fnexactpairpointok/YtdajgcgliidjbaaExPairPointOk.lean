/-
  ort Derived.Test.YtdajgcgliidjbaaZQo
-/
import Derived.Test.YtdajgcgliidjbaaRows
import Derived.WalkKit
import Derived.ProofKit
import Derived.OpenShut
import Derived.ShutString
import Derived.ChangeOld
import Derived.Below
import Derived.Test.YtdajgcgliidjbaaZQo
import Derived.Test.YtdajgcgliidjbaaZQx
import Derived.Test.YtdajgcgliidjbaaZQa
import Derived.Test.YtdajgcgliidjbaaZQi
namespace Go.Proofs.Ytdajgcgliidjbaa.fnExactPairPointOk
open Go.ChangeShapes Go.WideShapes Go.ChangeAt Go.RowKit
open Go.ChangeMaps (open_string shut_string)
set_option linter.unusedVariables false
-- Proved: for every int and every point over pairs laws.FnExactPairPointOk returns true: impl.PairPointOk answers as its model. Conditions: none.
set_option maxRecDepth 8000 in
set_option maxHeartbeats 4000000 in
theorem walk (a0 : Int) (a1 : Tq) (w : World) (_w0 : (Lit.int .i64 a0).wf = true) (_w1 : wf_laws_PairPoint a1) :
    Calls Try.prog 3 #[.int .i64 a0, .agg (tqT a1)] w fun e w' => e = .returned (.bool true) ∧ Below w.heap.size w w' := by
  have HSp := Lib.hid (pairPointOk_any a0 a1)
  have HIm := Lib.hid (pairPointOk_i a0 a1)
  generalize pairPtB a0 a1 = v0 at *
  clear _w0 _w1
  have HG := Lib.hid (blks1 w (tqT a1) 25)
  go_enter Try.func3, Try.ntmps3
  go_upto_region 1 with (fail)
  generalize w.alloc _ = w0 at *
  have HS := Lib.hid HG.out.h
  replace HS : Hid (Held w0 [(w.heap.size, tqT a1, 25)]) := Lib.hid (HG.out.h.pick [0] _ rfl)
  refine wp_region_line (S := fun w' => Held w' [(w.heap.size, tqT a1, 25)]) [(true, 0)] (by kernel_rfl) (by kernel_rfl) HS.out ?_
  refine sq_ps [(0, .int .i64 1048576)] (by kernel_rfl) ?_
  refine sq_fin { tmps := List.toArray ([.int .i64 a0, .agg (tqT a1), undef, .pointer (some ⟨w.heap.size, 0, none⟩), .bool false, .int .i64 1048576, undef, undef, undef, undef, undef, undef, undef, undef, undef, undef, undef, undef, undef, undef, undef, undef, undef, undef]), defers := [] } (by kernel_rfl) ?_
  refine (by assumption : ∀ (a : Act) (w_1 : World), Code.wp _ _ _ a w_1 → _) _ _ ?_
  go_upto_region 2 with (fail)
  replace HS : Hid (Held w0 [(w.heap.size, tqT a1, 25)]) := Lib.hid (HG.out.h.pick [0] _ rfl)
  refine wp_region_line (S := fun w' => Held w' [(w.heap.size, tqT a1, 25)]) [(true, 0), (true, 1), (false, 2), (true, 3)] (by kernel_rfl) (by kernel_rfl) HS.out ?_
  refine sq_ld (some 8) (ld_mid' (D := tqT a1) (k := 0) Try.underlying25 rfl Try.info_lpq (.head _) rfl) (by kernel_rfl) ?_
  refine sq_ps [(1, .int .i64 1048576)] (by kernel_rfl) ?_
  refine sq_c (some 10) Try.func7 (sz_laws_PairPoint a1 ( 1048576) _) (by kernel_rfl) ?_
  rintro e v1 ⟨⟨zz1, rfl⟩, bw⟩
  replace HG := Lib.hid (HG.out.on bw)
  clear bw
  refine ⟨_, rfl, (HG.out.h.pick [0] _ rfl), ?_⟩
  refine sq_ps [(3, .int .i64 zz1)] (by kernel_rfl) ?_
  refine sq_fin { tmps := List.toArray ([.int .i64 a0, .agg (tqT a1), undef, .pointer (some ⟨w.heap.size, 0, none⟩), .bool false, .int .i64 zz1, undef, undef, .agg (tqT a1), .int .i64 1048576, .int .i64 zz1, undef, undef, undef, undef, undef, undef, undef, undef, undef, undef, undef, undef, undef]), defers := [] } (by kernel_rfl) ?_
  refine (by assumption : ∀ (a : Act) (w_1 : World), Code.wp _ _ _ a w_1 → _) _ _ ?_
  go_upto_region 3 with (fail)
  replace HS : Hid (Held v1 [(w.heap.size, tqT a1, 25)]) := Lib.hid (HG.out.h.pick [0] _ rfl)
  refine wp_region_line (S := fun w' => Held w' [(w.heap.size, tqT a1, 25)]) [(true, 0), (true, 1)] (by kernel_rfl) (by kernel_rfl) HS.out ?_
  refine sq_ps [(0, .int .i64 zz1), (1, .bool (decide (zz1 < 0)))] (by kernel_rfl) ?_
  refine sq_fin { tmps := List.toArray ([.int .i64 a0, .agg (tqT a1), undef, .pointer (some ⟨w.heap.size, 0, none⟩), .bool false, .int .i64 zz1, undef, undef, .agg (tqT a1), .int .i64 1048576, .int .i64 zz1, .int .i64 zz1, .bool (decide (zz1 < 0)), undef, undef, undef, undef, undef, undef, undef, undef, undef, undef, undef]), defers := [] } (by kernel_rfl) ?_
  refine (by assumption : ∀ (a : Act) (w_1 : World), Code.wp _ _ _ a w_1 → _) _ _ ?_
  by_cases hc2 : (decide (zz1 < 0)) = true
  · rw [hc2]
    go_upto_region 4 with (fail)
    replace HS : Hid (Held v1 [(w.heap.size, tqT a1, 25)]) := Lib.hid (HG.out.h.pick [0] _ rfl)
    refine wp_region_line (S := fun w' => Held w' [(w.heap.size, tqT a1, 25)]) [(true, 0)] (by kernel_rfl) (by kernel_rfl) HS.out ?_
    refine sq_ps [(0, .bool true)] (by kernel_rfl) ?_
    refine sq_done ?_
    refine (by assumption : ∀ (a : Act) (w_1 : World), Code.wp _ Code.ret _ a w_1 → _) _ _ ?_
    refine wp_ret ?_
    try refine wk_block ?_
    try refine wk_then ?_
    exact wk_ret (v := .bool true) Try.results3 (by kernel_rfl) (by kernel_rfl) ⟨rfl, HG.out.b⟩
  · replace hc2 := eq_false_of_ne_true hc2
    rw [hc2]
    go_upto_region 5 with (fail)
    replace HS : Hid (Held v1 [(w.heap.size, tqT a1, 25)]) := Lib.hid (HG.out.h.pick [0] _ rfl)
    refine wp_region_line (S := fun w' => Held w' [(w.heap.size, tqT a1, 25)]) [(true, 0), (true, 1), (false, 2), (false, 3), (true, 4)] (by kernel_rfl) (by kernel_rfl) HS.out ?_
    refine sq_ps [(0, .int .i64 a0)] (by kernel_rfl) ?_
    refine sq_ld (some 14) (ld_mid' (D := tqT a1) (k := 0) Try.underlying25 rfl Try.info_lpq (.head _) rfl) (by kernel_rfl) ?_
    refine sq_c (some 15) Try.func9 (to_laws_PairPoint a1 _) (by kernel_rfl) ?_
    rintro e v3 ⟨rfl, bw⟩
    replace HG := Lib.hid (HG.out.on bw)
    clear bw
    refine ⟨_, rfl, (HG.out.h.pick [0] _ rfl), ?_⟩
    refine sq_c (some 16) Try.func8 (HSp.out _) (by kernel_rfl) ?_
    rintro e v4 ⟨rfl, bw⟩
    replace HG := Lib.hid (HG.out.on bw)
    clear bw
    refine ⟨_, rfl, (HG.out.h.pick [0] _ rfl), ?_⟩
    refine sq_ps [(4, .bool v0)] (by kernel_rfl) ?_
    refine sq_fin { tmps := List.toArray ([.int .i64 a0, .agg (tqT a1), undef, .pointer (some ⟨w.heap.size, 0, none⟩), .bool false, .int .i64 zz1, .bool v0, undef, .agg (tqT a1), .int .i64 1048576, .int .i64 zz1, .int .i64 zz1, .bool false, .int .i64 a0, .agg (tqT a1), .agg (tqT a1), .bool v0, undef, undef, undef, undef, undef, undef, undef]), defers := [] } (by kernel_rfl) ?_
    refine (by assumption : ∀ (a : Act) (w_1 : World), Code.wp _ _ _ a w_1 → _) _ _ ?_
    go_upto_region 6 with (fail)
    replace HS : Hid (Held v4 [(w.heap.size, tqT a1, 25)]) := Lib.hid (HG.out.h.pick [0] _ rfl)
    refine wp_region_line (S := fun w' => Held w' [(w.heap.size, tqT a1, 25)]) [(true, 0), (true, 1), (false, 2), (false, 3), (true, 4)] (by kernel_rfl) (by kernel_rfl) HS.out ?_
    refine sq_ps [(0, .int .i64 a0)] (by kernel_rfl) ?_
    refine sq_ld (some 18) (ld_mid' (D := tqT a1) (k := 0) Try.underlying25 rfl Try.info_lpq (.head _) rfl) (by kernel_rfl) ?_
    refine sq_c (some 19) Try.func9 (to_laws_PairPoint a1 _) (by kernel_rfl) ?_
    rintro e v5 ⟨rfl, bw⟩
    replace HG := Lib.hid (HG.out.on bw)
    clear bw
    refine ⟨_, rfl, (HG.out.h.pick [0] _ rfl), ?_⟩
    refine sq_c (some 20) Try.func10 (HIm.out _) (by kernel_rfl) ?_
    rintro e v6 ⟨rfl, bw⟩
    replace HG := Lib.hid (HG.out.on bw)
    clear bw
    refine ⟨_, rfl, (HG.out.h.pick [0] _ rfl), ?_⟩
    refine sq_ps [(4, .bool v0)] (by kernel_rfl) ?_
    refine sq_fin { tmps := List.toArray ([.int .i64 a0, .agg (tqT a1), undef, .pointer (some ⟨w.heap.size, 0, none⟩), .bool false, .int .i64 zz1, .bool v0, .bool v0, .agg (tqT a1), .int .i64 1048576, .int .i64 zz1, .int .i64 zz1, .bool false, .int .i64 a0, .agg (tqT a1), .agg (tqT a1), .bool v0, .int .i64 a0, .agg (tqT a1), .agg (tqT a1), .bool v0, undef, undef, undef]), defers := [] } (by kernel_rfl) ?_
    refine (by assumption : ∀ (a : Act) (w_1 : World), Code.wp _ _ _ a w_1 → _) _ _ ?_
    go_upto_region 7 with (fail)
    replace HS : Hid (Held v6 [(w.heap.size, tqT a1, 25)]) := Lib.hid (HG.out.h.pick [0] _ rfl)
    refine wp_region_line (S := fun w' => Held w' [(w.heap.size, tqT a1, 25)]) [(true, 0), (true, 1), (true, 2)] (by kernel_rfl) (by kernel_rfl) HS.out ?_
    refine sq_ps [(0, .bool v0), (1, .bool v0)] (by kernel_rfl) ?_
    refine sq_v (some 23) (.bool (v0 != v0)) (.bool false) (congrArg Value.bool (bne_self_eq_false _)) (by kernel_rfl) (by kernel_rfl) (fun _ => (by kernel_rfl)) ?_
    refine sq_fin { tmps := List.toArray ([.int .i64 a0, .agg (tqT a1), undef, .pointer (some ⟨w.heap.size, 0, none⟩), .bool false, .int .i64 zz1, .bool v0, .bool v0, .agg (tqT a1), .int .i64 1048576, .int .i64 zz1, .int .i64 zz1, .bool false, .int .i64 a0, .agg (tqT a1), .agg (tqT a1), .bool v0, .int .i64 a0, .agg (tqT a1), .agg (tqT a1), .bool v0, .bool v0, .bool v0, .bool false]), defers := [] } (by kernel_rfl) ?_
    refine (by assumption : ∀ (a : Act) (w_1 : World), Code.wp _ _ _ a w_1 → _) _ _ ?_
    go_upto_region 9 with (fail)
    replace HS : Hid (Held v6 [(w.heap.size, tqT a1, 25)]) := Lib.hid (HG.out.h.pick [0] _ rfl)
    refine wp_region_line (S := fun w' => Held w' [(w.heap.size, tqT a1, 25)]) [(true, 0)] (by kernel_rfl) (by kernel_rfl) HS.out ?_
    refine sq_ps [(0, .bool true)] (by kernel_rfl) ?_
    refine sq_done ?_
    refine (by assumption : ∀ (a : Act) (w_1 : World), Code.wp _ Code.ret _ a w_1 → _) _ _ ?_
    refine wp_ret ?_
    try refine wk_block ?_
    try refine wk_then ?_
    exact wk_ret (v := .bool true) Try.results3 (by kernel_rfl) (by kernel_rfl) ⟨rfl, HG.out.b⟩

theorem own : ownKnob Try.prog.godebug = none := by kernel_rfl
theorem laidOut : laidOutB Try.prog = true := by kernel_rfl
set_option maxRecDepth 100000 in
theorem lifted (os : Os) (started : os.Started) (H : Type) (enc : TypeId × Value → H) :
    ReturnsInHanded {} Try.checked os 3 .any (Rows.fnExactPairPointOkSpec.pre6 enc Try.prog Try.f3 Rows.fnExactPairPointOkRow.domain false) (Rows.fnExactPairPointOkSpec.post enc Try.prog Try.f3 false true false false) := by
  refine returnsInHanded_of_change (C := Try.checked) own started (by kernel_rfl) Try.func3
    (ChangeSpec.witness6 (enc := enc) (C := Try.checked) false ⟨#[], #[.int .i64 0, .agg #[.bool false, .string ByteArray.empty, .string ByteArray.empty, .string ByteArray.empty, .string ByteArray.empty]], []⟩ 8 (by kernel_rfl) (by kernel_rfl) (by kernel_rfl) (by kernel_rfl)) ?_
  intro W base args ds gs before hval0 hW hcnd _
  have hval : ∀ (j : Nat) t v, Try.f3.params[j]? = some t → args[j]? = some v → Value.okWide Try.prog W .any base t v := hval0
  have hW' := hW
  obtain ⟨p, q, hA0, hV, rfl, hfz, hnd⟩ := hW
  have hA : DataW.TrodAll enc Try.prog W 0 (fun _ => true) true Try.f3.params.toList args.toList ds p := hA0
  rw [Try.params3] at hA hval
  obtain ⟨v0, vs0, d0, ds0, p0, q0, hargs, rfl, rfl, h0, r0⟩ := trodAll_cons hA
  obtain ⟨v1, vs1, d1, ds1, p1, q1, rfl, rfl, rfl, h1, r1⟩ := trodAll_cons r0
  obtain ⟨rfl, rfl, rfl⟩ := trodAll_nil r1
  obtain rfl : args = #[v0, v1] := by cases args; simp_all
  obtain ⟨rfl, rfl⟩ := trodVars_none hV
  obtain ⟨a0, rfl, rfl, rfl, w0⟩ := open_int Try.underlying3 (hval 0 3 v0 rfl rfl) h0
  obtain ⟨a1, rfl, rfl, rfl, w1⟩ := open_laws_PairPoint (hval 1 25 v1 rfl rfl) h1
  clear hA0 hval0
  simp only [List.append_nil] at hW'
  refine (walk a0 a1 W w0 w1).mono fun e W' ⟨he, bel⟩ => ?_
  subst he
  exact ⟨_, rfl, _, _, _, [], [], [], hW', trodAll_mk1 (shut_bool Try.underlying4 _), (trodAll_cons_mk (shut_int Try.underlying3 w0) (trodAll_cons_mk (shut_laws_PairPoint w1) trodAll_mk0)), rfl, bel.frame _, fun h => by cases h⟩

theorem over : Rows.fnExactPairPointOkRow.holds Try.pinned (OpenSpec.ofChange Rows.fnExactPairPointOkSpec) :=
  OpenClaim.holds_of_wide 3 Try.f3 rfl rfl rfl rfl rfl rfl rfl ⟨rfl, rfl, rfl, rfl, rfl⟩ rfl rfl rfl rfl rfl (by kernel_rfl) Try.func3 (by kernel_rfl)
    (of_decide_eq_true (by kernel_rfl)) (by unfold Func.isWrapper; first | (rw [if_pos (by decide +kernel)]; kernel_rfl) | (rw [if_neg (by decide +kernel)]; exact ⟨rfl, rfl⟩))
    (fun os started H enc _ => lifted os started H enc)

theorem proved : Rows.FnExactPairPointOkSaid := over
end Go.Proofs.Ytdajgcgliidjbaa.fnExactPairPointOk

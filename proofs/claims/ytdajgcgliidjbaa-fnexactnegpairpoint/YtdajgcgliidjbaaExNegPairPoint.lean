/-
  ort Derived.Test.YtdajgcgliidjbaaZQo
-/
import Derived.Test.YtdajgcgliidjbaaRows
import Derived.WalkKit
import Derived.ProofKit
import Derived.OpenShut
import Derived.ShutString
import Derived.ChangeOld
import Derived.Below
import Derived.Test.YtdajgcgliidjbaaZQo
import Derived.Test.YtdajgcgliidjbaaZQx
import Derived.Test.YtdajgcgliidjbaaZQa
import Derived.Test.YtdajgcgliidjbaaZQi
namespace Go.Proofs.Ytdajgcgliidjbaa.fnExactNegPairPoint
open Go.ChangeShapes Go.WideShapes Go.ChangeAt Go.RowKit
open Go.ChangeMaps (open_string shut_string)
set_option linter.unusedVariables false
-- Proved: for every int and every point over pairs laws.FnExactNegPairPoint returns true: impl.NegPairPoint answers as its model. Conditions: none.
set_option maxRecDepth 8000 in
set_option maxHeartbeats 4000000 in
theorem walk (a0 : Int) (a1 : Tq) (w : World) (_w0 : (Lit.int .i64 a0).wf = true) (_w1 : wf_laws_PairPoint a1) :
    Calls Try.prog 5 #[.int .i64 a0, .agg (tqT a1)] w fun e w' => e = .returned (.bool true) ∧ Below w.heap.size w w' := by
  have HSp := Lib.hid (negPairPoint_any a0 a1)
  have HIm := Lib.hid (negPairPoint_i a0 a1)
  generalize negQG a0 a1 = r at *
  clear _w0 _w1
  have HG := Lib.hid (blks1 w (tqT a1) 25)
  go_enter Try.func5, Try.ntmps5
  go_upto_region 1 with (fail)
  generalize w.alloc _ = w0 at *
  have HS := Lib.hid HG.out.h
  replace HS : Hid (Held w0 [(w.heap.size, tqT a1, 25)]) := Lib.hid (HG.out.h.pick [0] _ rfl)
  refine wp_region_line (S := fun w' => Held w' [(w.heap.size, tqT a1, 25)]) [(true, 0)] (by kernel_rfl) (by kernel_rfl) HS.out ?_
  refine sq_ps [(0, .int .i64 1048576)] (by kernel_rfl) ?_
  refine sq_fin { tmps := List.toArray ([.int .i64 a0, .agg (tqT a1), undef, .pointer (some ⟨w.heap.size, 0, none⟩), .bool false, .int .i64 1048576, undef, undef, undef, undef, undef, undef, undef, undef, undef, undef, undef, undef, undef, undef, undef, undef, undef, undef, undef]), defers := [] } (by kernel_rfl) ?_
  refine (by assumption : ∀ (a : Act) (w_1 : World), Code.wp _ _ _ a w_1 → _) _ _ ?_
  go_upto_region 2 with (fail)
  replace HS : Hid (Held w0 [(w.heap.size, tqT a1, 25)]) := Lib.hid (HG.out.h.pick [0] _ rfl)
  refine wp_region_line (S := fun w' => Held w' [(w.heap.size, tqT a1, 25)]) [(true, 0), (true, 1), (false, 2), (true, 3)] (by kernel_rfl) (by kernel_rfl) HS.out ?_
  refine sq_ld (some 8) (ld_mid' (D := tqT a1) (k := 0) Try.underlying25 rfl Try.info_lpq (.head _) rfl) (by kernel_rfl) ?_
  refine sq_ps [(1, .int .i64 1048576)] (by kernel_rfl) ?_
  refine sq_c (some 10) Try.func7 (sz_laws_PairPoint a1 ( 1048576) _) (by kernel_rfl) ?_
  rintro e v1 ⟨⟨zz1, rfl⟩, bw⟩
  replace HG := Lib.hid (HG.out.on bw)
  clear bw
  refine ⟨_, rfl, (HG.out.h.pick [0] _ rfl), ?_⟩
  refine sq_ps [(3, .int .i64 zz1)] (by kernel_rfl) ?_
  refine sq_fin { tmps := List.toArray ([.int .i64 a0, .agg (tqT a1), undef, .pointer (some ⟨w.heap.size, 0, none⟩), .bool false, .int .i64 zz1, undef, undef, .agg (tqT a1), .int .i64 1048576, .int .i64 zz1, undef, undef, undef, undef, undef, undef, undef, undef, undef, undef, undef, undef, undef, undef]), defers := [] } (by kernel_rfl) ?_
  refine (by assumption : ∀ (a : Act) (w_1 : World), Code.wp _ _ _ a w_1 → _) _ _ ?_
  go_upto_region 3 with (fail)
  replace HS : Hid (Held v1 [(w.heap.size, tqT a1, 25)]) := Lib.hid (HG.out.h.pick [0] _ rfl)
  refine wp_region_line (S := fun w' => Held w' [(w.heap.size, tqT a1, 25)]) [(true, 0), (true, 1)] (by kernel_rfl) (by kernel_rfl) HS.out ?_
  refine sq_ps [(0, .int .i64 zz1), (1, .bool (decide (zz1 < 0)))] (by kernel_rfl) ?_
  refine sq_fin { tmps := List.toArray ([.int .i64 a0, .agg (tqT a1), undef, .pointer (some ⟨w.heap.size, 0, none⟩), .bool false, .int .i64 zz1, undef, undef, .agg (tqT a1), .int .i64 1048576, .int .i64 zz1, .int .i64 zz1, .bool (decide (zz1 < 0)), undef, undef, undef, undef, undef, undef, undef, undef, undef, undef, undef, undef]), defers := [] } (by kernel_rfl) ?_
  refine (by assumption : ∀ (a : Act) (w_1 : World), Code.wp _ _ _ a w_1 → _) _ _ ?_
  by_cases hc2 : (decide (zz1 < 0)) = true
  · rw [hc2]
    go_upto_region 4 with (fail)
    replace HS : Hid (Held v1 [(w.heap.size, tqT a1, 25)]) := Lib.hid (HG.out.h.pick [0] _ rfl)
    refine wp_region_line (S := fun w' => Held w' [(w.heap.size, tqT a1, 25)]) [(true, 0)] (by kernel_rfl) (by kernel_rfl) HS.out ?_
    refine sq_ps [(0, .bool true)] (by kernel_rfl) ?_
    refine sq_done ?_
    refine (by assumption : ∀ (a : Act) (w_1 : World), Code.wp _ Code.ret _ a w_1 → _) _ _ ?_
    refine wp_ret ?_
    try refine wk_block ?_
    try refine wk_then ?_
    exact wk_ret (v := .bool true) Try.results5 (by kernel_rfl) (by kernel_rfl) ⟨rfl, HG.out.b⟩
  · replace hc2 := eq_false_of_ne_true hc2
    rw [hc2]
    go_upto_region 5 with (fail)
    replace HS : Hid (Held v1 [(w.heap.size, tqT a1, 25)]) := Lib.hid (HG.out.h.pick [0] _ rfl)
    refine wp_region_line (S := fun w' => Held w' [(w.heap.size, tqT a1, 25)]) [(true, 0), (true, 1), (false, 2), (false, 3), (false, 4), (false, 5)] (by kernel_rfl) (by kernel_rfl) HS.out ?_
    refine sq_ps [(0, .int .i64 a0)] (by kernel_rfl) ?_
    refine sq_ld (some 14) (ld_mid' (D := tqT a1) (k := 0) Try.underlying25 rfl Try.info_lpq (.head _) rfl) (by kernel_rfl) ?_
    refine sq_c (some 15) Try.func9 (to_laws_PairPoint a1 _) (by kernel_rfl) ?_
    rintro e v3 ⟨rfl, bw⟩
    replace HG := Lib.hid (HG.out.on bw)
    clear bw
    refine ⟨_, rfl, (HG.out.h.pick [0] _ rfl), ?_⟩
    refine sq_c (some 16) Try.func14 (HSp.out _) (by kernel_rfl) ?_
    rintro e v4 ⟨rfl, bw⟩
    replace HG := Lib.hid (HG.out.on bw)
    clear bw
    refine ⟨_, rfl, (HG.out.h.pick [0] _ rfl), ?_⟩
    replace HG := Lib.hid (HG.out.new (tqT (false, noP, noP)) 30)
    refine sq_alloc (some 6) 30 (tqT (false, noP, noP)) (by kernel_rfl) (by kernel_rfl) (by kernel_rfl) (by kernel_rfl) (zero_pq _) (HG.out.h.pick [1] _ rfl) ?_
    generalize v4.alloc _ = u5 at *
    generalize v4.heap.size = g5 at *
    have HN := Lib.hid (HG.out.at 0 rfl)
    replace HG : Hid (Blks w (u5.setRow g5 (tqT r)) [(g5, tqT r, 30), (w.heap.size, tqT a1, 25)]) := Lib.hid (HG.out.put 0 rfl (tqT r))
    refine sq_st 30 g5 (tqT r) HN.out Try.infoPq rfl (by kernel_rfl) (HG.out.h.pick [1] _ rfl) (by kernel_rfl) ?_
    clear HN
    generalize World.setRow _ g5 _ = t6 at *
    refine sq_fin { tmps := List.toArray ([.int .i64 a0, .agg (tqT a1), undef, .pointer (some ⟨w.heap.size, 0, none⟩), .bool false, .int .i64 zz1, .pointer (some ⟨g5, 0, none⟩), undef, .agg (tqT a1), .int .i64 1048576, .int .i64 zz1, .int .i64 zz1, .bool false, .int .i64 a0, .agg (tqT a1), .agg (tqT a1), .agg (tqT r), undef, undef, undef, undef, undef, undef, undef, undef]), defers := [] } (by kernel_rfl) ?_
    refine (by assumption : ∀ (a : Act) (w_1 : World), Code.wp _ _ _ a w_1 → _) _ _ ?_
    go_upto_region 6 with (fail)
    replace HS : Hid (Held t6 [(g5, tqT r, 30), (w.heap.size, tqT a1, 25)]) := Lib.hid (HG.out.h.pick [0, 1] _ rfl)
    refine wp_region_line (S := fun w' => Held w' [(g5, tqT r, 30), (w.heap.size, tqT a1, 25)]) [(true, 0), (true, 1), (false, 2), (false, 3), (false, 4), (false, 5)] (by kernel_rfl) (by kernel_rfl) HS.out ?_
    refine sq_ps [(0, .int .i64 a0)] (by kernel_rfl) ?_
    refine sq_ld (some 18) (ld_mid' (D := tqT a1) (k := 0) Try.underlying25 rfl Try.info_lpq (.tail _ (.head _)) rfl) (by kernel_rfl) ?_
    refine sq_c (some 19) Try.func9 (to_laws_PairPoint a1 _) (by kernel_rfl) ?_
    rintro e v7 ⟨rfl, bw⟩
    replace HG := Lib.hid (HG.out.on bw)
    clear bw
    refine ⟨_, rfl, (HG.out.h.pick [0, 1] _ rfl), ?_⟩
    refine sq_c (some 20) Try.func15 (HIm.out _) (by kernel_rfl) ?_
    rintro e v8 ⟨rfl, bw⟩
    replace HG := Lib.hid (HG.out.on bw)
    clear bw
    refine ⟨_, rfl, (HG.out.h.pick [0, 1] _ rfl), ?_⟩
    replace HG := Lib.hid (HG.out.new (tqT (false, noP, noP)) 30)
    refine sq_alloc (some 7) 30 (tqT (false, noP, noP)) (by kernel_rfl) (by kernel_rfl) (by kernel_rfl) (by kernel_rfl) (zero_pq _) (HG.out.h.pick [1, 2] _ rfl) ?_
    generalize v8.alloc _ = u9 at *
    generalize v8.heap.size = g9 at *
    have HN := Lib.hid (HG.out.at 0 rfl)
    replace HG : Hid (Blks w (u9.setRow g9 (tqT r)) [(g9, tqT r, 30), (g5, tqT r, 30), (w.heap.size, tqT a1, 25)]) := Lib.hid (HG.out.put 0 rfl (tqT r))
    refine sq_st 30 g9 (tqT r) HN.out Try.infoPq rfl (by kernel_rfl) (HG.out.h.pick [1, 2] _ rfl) (by kernel_rfl) ?_
    clear HN
    generalize World.setRow _ g9 _ = t10 at *
    refine sq_fin { tmps := List.toArray ([.int .i64 a0, .agg (tqT a1), undef, .pointer (some ⟨w.heap.size, 0, none⟩), .bool false, .int .i64 zz1, .pointer (some ⟨g5, 0, none⟩), .pointer (some ⟨g9, 0, none⟩), .agg (tqT a1), .int .i64 1048576, .int .i64 zz1, .int .i64 zz1, .bool false, .int .i64 a0, .agg (tqT a1), .agg (tqT a1), .agg (tqT r), .int .i64 a0, .agg (tqT a1), .agg (tqT a1), .agg (tqT r), undef, undef, undef, undef]), defers := [] } (by kernel_rfl) ?_
    refine (by assumption : ∀ (a : Act) (w_1 : World), Code.wp _ _ _ a w_1 → _) _ _ ?_
    go_upto_region 7 with (fail)
    replace HS : Hid (Held t10 [(g9, tqT r, 30), (g5, tqT r, 30), (w.heap.size, tqT a1, 25)]) := Lib.hid (HG.out.h.pick [0, 1, 2] _ rfl)
    refine wp_region_line (S := fun w' => Held w' [(g9, tqT r, 30), (g5, tqT r, 30), (w.heap.size, tqT a1, 25)]) [(true, 0), (true, 1), (false, 2), (true, 3)] (by kernel_rfl) (by kernel_rfl) HS.out ?_
    refine sq_ld (some 21) (ld_mid' (D := tqT r) (k := 0) Try.underlying30 rfl Try.infoPq (.head _) rfl) (by kernel_rfl) ?_
    refine sq_ld (some 22) (ld_mid' (D := tqT r) (k := 0) Try.underlying30 rfl Try.infoPq (.tail _ (.head _)) rfl) (by kernel_rfl) ?_
    refine sq_c (some 23) Try.func13 (same_impl_PairPoint r _) (by kernel_rfl) ?_
    rintro e v11 ⟨rfl, bw⟩
    replace HG := Lib.hid (HG.out.on bw)
    clear bw
    refine ⟨_, rfl, (HG.out.h.pick [0, 1, 2] _ rfl), ?_⟩
    refine sq_ps [(3, .bool false)] (by kernel_rfl) ?_
    refine sq_fin { tmps := List.toArray ([.int .i64 a0, .agg (tqT a1), undef, .pointer (some ⟨w.heap.size, 0, none⟩), .bool false, .int .i64 zz1, .pointer (some ⟨g5, 0, none⟩), .pointer (some ⟨g9, 0, none⟩), .agg (tqT a1), .int .i64 1048576, .int .i64 zz1, .int .i64 zz1, .bool false, .int .i64 a0, .agg (tqT a1), .agg (tqT a1), .agg (tqT r), .int .i64 a0, .agg (tqT a1), .agg (tqT a1), .agg (tqT r), .agg (tqT r), .agg (tqT r), .bool true, .bool false]), defers := [] } (by kernel_rfl) ?_
    refine (by assumption : ∀ (a : Act) (w_1 : World), Code.wp _ _ _ a w_1 → _) _ _ ?_
    go_upto_region 9 with (fail)
    replace HS : Hid (Held v11 [(g9, tqT r, 30), (g5, tqT r, 30), (w.heap.size, tqT a1, 25)]) := Lib.hid (HG.out.h.pick [0, 1, 2] _ rfl)
    refine wp_region_line (S := fun w' => Held w' [(g9, tqT r, 30), (g5, tqT r, 30), (w.heap.size, tqT a1, 25)]) [(true, 0)] (by kernel_rfl) (by kernel_rfl) HS.out ?_
    refine sq_ps [(0, .bool true)] (by kernel_rfl) ?_
    refine sq_done ?_
    refine (by assumption : ∀ (a : Act) (w_1 : World), Code.wp _ Code.ret _ a w_1 → _) _ _ ?_
    refine wp_ret ?_
    try refine wk_block ?_
    try refine wk_then ?_
    exact wk_ret (v := .bool true) Try.results5 (by kernel_rfl) (by kernel_rfl) ⟨rfl, HG.out.b⟩

theorem own : ownKnob Try.prog.godebug = none := by kernel_rfl
theorem laidOut : laidOutB Try.prog = true := by kernel_rfl
set_option maxRecDepth 100000 in
theorem lifted (os : Os) (started : os.Started) (H : Type) (enc : TypeId × Value → H) :
    ReturnsInHanded {} Try.checked os 5 .any (Rows.fnExactNegPairPointSpec.pre6 enc Try.prog Try.f5 Rows.fnExactNegPairPointRow.domain false) (Rows.fnExactNegPairPointSpec.post enc Try.prog Try.f5 false true false false) := by
  refine returnsInHanded_of_change (C := Try.checked) own started (by kernel_rfl) Try.func5
    (ChangeSpec.witness6 (enc := enc) (C := Try.checked) false ⟨#[], #[.int .i64 0, .agg #[.bool false, .string ByteArray.empty, .string ByteArray.empty, .string ByteArray.empty, .string ByteArray.empty]], []⟩ 8 (by kernel_rfl) (by kernel_rfl) (by kernel_rfl) (by kernel_rfl)) ?_
  intro W base args ds gs before hval0 hW hcnd _
  have hval : ∀ (j : Nat) t v, Try.f5.params[j]? = some t → args[j]? = some v → Value.okWide Try.prog W .any base t v := hval0
  have hW' := hW
  obtain ⟨p, q, hA0, hV, rfl, hfz, hnd⟩ := hW
  have hA : DataW.TrodAll enc Try.prog W 0 (fun _ => true) true Try.f5.params.toList args.toList ds p := hA0
  rw [Try.params5] at hA hval
  obtain ⟨v0, vs0, d0, ds0, p0, q0, hargs, rfl, rfl, h0, r0⟩ := trodAll_cons hA
  obtain ⟨v1, vs1, d1, ds1, p1, q1, rfl, rfl, rfl, h1, r1⟩ := trodAll_cons r0
  obtain ⟨rfl, rfl, rfl⟩ := trodAll_nil r1
  obtain rfl : args = #[v0, v1] := by cases args; simp_all
  obtain ⟨rfl, rfl⟩ := trodVars_none hV
  obtain ⟨a0, rfl, rfl, rfl, w0⟩ := open_int Try.underlying3 (hval 0 3 v0 rfl rfl) h0
  obtain ⟨a1, rfl, rfl, rfl, w1⟩ := open_laws_PairPoint (hval 1 25 v1 rfl rfl) h1
  clear hA0 hval0
  simp only [List.append_nil] at hW'
  refine (walk a0 a1 W w0 w1).mono fun e W' ⟨he, bel⟩ => ?_
  subst he
  exact ⟨_, rfl, _, _, _, [], [], [], hW', trodAll_mk1 (shut_bool Try.underlying4 _), (trodAll_cons_mk (shut_int Try.underlying3 w0) (trodAll_cons_mk (shut_laws_PairPoint w1) trodAll_mk0)), rfl, bel.frame _, fun h => by cases h⟩

theorem over : Rows.fnExactNegPairPointRow.holds Try.pinned (OpenSpec.ofChange Rows.fnExactNegPairPointSpec) :=
  OpenClaim.holds_of_wide 5 Try.f5 rfl rfl rfl rfl rfl rfl rfl ⟨rfl, rfl, rfl, rfl, rfl⟩ rfl rfl rfl rfl rfl (by kernel_rfl) Try.func5 (by kernel_rfl)
    (of_decide_eq_true (by kernel_rfl)) (by unfold Func.isWrapper; first | (rw [if_pos (by decide +kernel)]; kernel_rfl) | (rw [if_neg (by decide +kernel)]; exact ⟨rfl, rfl⟩))
    (fun os started H enc _ => lifted os started H enc)

theorem proved : Rows.FnExactNegPairPointSaid := over
end Go.Proofs.Ytdajgcgliidjbaa.fnExactNegPairPoint

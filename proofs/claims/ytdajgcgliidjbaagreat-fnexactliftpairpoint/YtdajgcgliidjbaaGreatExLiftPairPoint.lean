/-
  ort Derived.Test.YtdajgcgliidjbaaGreatZQo
-/
import Derived.Test.YtdajgcgliidjbaaGreatRows
import Derived.WalkKit
import Derived.ProofKit
import Derived.OpenShut
import Derived.ShutString
import Derived.ChangeOld
import Derived.Below
import Derived.Test.YtdajgcgliidjbaaGreatZQo
import Derived.Test.YtdajgcgliidjbaaGreatZQx
import Derived.Test.YtdajgcgliidjbaaGreatZQa
import Derived.Test.YtdajgcgliidjbaaGreatZQl
namespace Go.Proofs.YtdajgcgliidjbaaGreat.fnExactLiftPairPoint
open Go.ChangeShapes Go.WideShapes Go.ChangeAt Go.RowKit
open Go.ChangeMaps (open_string shut_string)
set_option linter.unusedVariables false
set_option maxRecDepth 8000
set_option maxHeartbeats 4000000
theorem walk (a0 : Int) (a1 : Pt) (a2 : Bool) (w : World) (_w0 : (Lit.int .i64 a0).wf = true) (_w1 : wf_laws_Pair a1) :
  Calls Tryz.prog 5 #[.int .i64 a0, .agg (aggT a1), .bool a2] w fun e w' => e = .returned (.bool true) ∧ Below w.heap.size w w' := by
 have HSp := Lib.hid (liftPairPoint_any a0 a1 a2)
 have HIm := Lib.hid (liftPairPoint_i a0 a1 a2)
 generalize liftQG a0 a1 a2 = r at *
 generalize liftQB a0 a1 a2 = rb at *
 clear _w0 _w1
 have HG := Lib.hid (blks1 w (aggT a1) 42)
 go_enter Tryz.func5, Tryz.ntmps5
 go_upto_region 1 with (fail)
 generalize w.alloc _ = w0 at *
 have HS := Lib.hid HG.out.h
 replace HS : Hid (Held w0 [(w.heap.size, aggT a1, 42)]) := Lib.hid (HG.out.h.pick [0] _ rfl)
 refine wp_region_linek (S := fun w' => Held w' [(w.heap.size, aggT a1, 42)]) [(true, 0)] HS.out ?_
 refine sq_psk [(0, .int .i64 1048576)] ?_
 refine sq_fink { tmps := List.toArray (List.append [.int .i64 a0, .agg (aggT a1), .bool a2, undef, .pointer (some ⟨w.heap.size, 0, none⟩), undef, .bool false, .int .i64 1048576, undef, undef, undef, undef, undef, undef, undef, undef, undef, undef, undef, undef, undef, undef, undef, undef, undef, undef, undef, undef, undef, undef, undef, undef, undef, undef, undef, undef, undef, undef, undef, undef] ([undef, undef])), defers := [] } ?_
 refine ‹∀ a w, Code.wp _ _ _ a w → _› _ _ ?_
 go_upto_region 2 with (fail)
 replace HS : Hid (Held w0 [(w.heap.size, aggT a1, 42)]) := Lib.hid (HG.out.h.pick [0] _ rfl)
 refine wp_region_linek (S := fun w' => Held w' [(w.heap.size, aggT a1, 42)]) [(true, 0), (true, 1), (false, 2), (true, 3)] HS.out ?_
 refine sq_ldk (some 12) (ld_mid' (D := aggT a1) (k := 0) Tryz.underlying42 rfl Tryz.info_lpr (.head _) rfl) ?_
 refine sq_psk [(1, .int .i64 1048576)] ?_
 refine sq_ck (some 14) Tryz.func22 (sz_laws_Pair a1 ( 1048576) _) ?_
 rintro e v1 ⟨⟨zz1, rfl⟩, bw⟩
 replace HG := Lib.hid (HG.out.on bw)
 clear bw
 refine ⟨_, rfl, (HG.out.h.pick [0] _ rfl), ?_⟩
 refine sq_psk [(3, .int .i64 zz1)] ?_
 refine sq_fink { tmps := List.toArray (List.append [.int .i64 a0, .agg (aggT a1), .bool a2, undef, .pointer (some ⟨w.heap.size, 0, none⟩), undef, .bool false, .int .i64 zz1, undef, undef, undef, undef, .agg (aggT a1), .int .i64 1048576, .int .i64 zz1, undef, undef, undef, undef, undef, undef, undef, undef, undef, undef, undef, undef, undef, undef, undef, undef, undef, undef, undef, undef, undef, undef, undef, undef, undef] ([undef, undef])), defers := [] } ?_
 refine ‹∀ a w, Code.wp _ _ _ a w → _› _ _ ?_
 go_upto_region 3 with (fail)
 replace HS : Hid (Held v1 [(w.heap.size, aggT a1, 42)]) := Lib.hid (HG.out.h.pick [0] _ rfl)
 refine wp_region_linek (S := fun w' => Held w' [(w.heap.size, aggT a1, 42)]) [(true, 0), (true, 1)] HS.out ?_
 refine sq_psk [(0, .int .i64 zz1), (1, .bool (decide (zz1 < 0)))] ?_
 refine sq_fink { tmps := List.toArray (List.append [.int .i64 a0, .agg (aggT a1), .bool a2, undef, .pointer (some ⟨w.heap.size, 0, none⟩), undef, .bool false, .int .i64 zz1, undef, undef, undef, undef, .agg (aggT a1), .int .i64 1048576, .int .i64 zz1, .int .i64 zz1, .bool (decide (zz1 < 0)), undef, undef, undef, undef, undef, undef, undef, undef, undef, undef, undef, undef, undef, undef, undef, undef, undef, undef, undef, undef, undef, undef, undef] ([undef, undef])), defers := [] } ?_
 refine ‹∀ a w, Code.wp _ _ _ a w → _› _ _ ?_
 by_cases hc2 : (decide (zz1 < 0)) = true
 ·rw [hc2]
  go_upto_region 4 with (fail)
  replace HS : Hid (Held v1 [(w.heap.size, aggT a1, 42)]) := Lib.hid (HG.out.h.pick [0] _ rfl)
  refine wp_region_linek (S := fun w' => Held w' [(w.heap.size, aggT a1, 42)]) [(true, 0)] HS.out ?_
  refine sq_psk [(0, .bool true)] ?_
  refine sq_done ?_
  refine ‹∀ a w, Code.wp _ Code.ret _ a w → _› _ _ ?_
  refine wp_ret ?_
  try refine wk_block ?_
  try refine wk_then ?_
  exact wk_ret (v := .bool true) Tryz.results5 (by kernel_rfl) (by kernel_rfl) ⟨rfl, HG.out.b⟩
 ·replace hc2 := eq_false_of_ne_true hc2
  rw [hc2]
  go_upto_region 5 with (fail)
  replace HS : Hid (Held v1 [(w.heap.size, aggT a1, 42)]) := Lib.hid (HG.out.h.pick [0] _ rfl)
  refine wp_region_linek (S := fun w' => Held w' [(w.heap.size, aggT a1, 42)]) [(true, 0), (true, 1), (false, 2), (true, 3), (false, 4), (true, 5), (true, 6), (true, 7), (false, 8), (false, 9), (true, 10)] HS.out ?_
  refine sq_psk [(0, .int .i64 a0)] ?_
  refine sq_ldk (some 19) (ld_mid' (D := aggT a1) (k := 0) Tryz.underlying42 rfl Tryz.info_lpr (.head _) rfl) ?_
  refine sq_ck (some 20) Tryz.func24 (to_laws_Pair a1 _) ?_
  rintro e v3 ⟨rfl, bw⟩
  replace HG := Lib.hid (HG.out.on bw)
  clear bw
  refine ⟨_, rfl, (HG.out.h.pick [0] _ rfl), ?_⟩
  refine sq_psk [(3, .bool a2)] ?_
  refine sq_ck (some 22) Tryz.func23 (HSp.out _) ?_
  rintro e v4 ⟨rfl, bw⟩
  replace HG := Lib.hid (HG.out.on bw)
  clear bw
  refine ⟨_, rfl, (HG.out.h.pick [0] _ rfl), ?_⟩
  refine sq_psk [(5, .tuple #[.agg (tqT r), .bool rb]), (6, .agg (tqT r)), (7, .bool rb)] ?_
  replace HG := Lib.hid (HG.out.new (tqT (false, noP, noP)) 27)
  refine sq_allock (some 8) 27 (tqT (false, noP, noP)) (zero_pq _) (HG.out.h.pick [1] _ rfl) ?_
  generalize v4.alloc _ = u5 at *
  generalize v4.heap.size = g5 at *
  have HN := Lib.hid (HG.out.at 0 rfl)
  replace HG : Hid (Blks w (u5.setRow g5 (tqT r)) [(g5, tqT r, 27), (w.heap.size, aggT a1, 42)]) := Lib.hid (HG.out.put 0 rfl (tqT r))
  refine sq_stk 27 g5 (tqT r) HN.out Tryz.infoPq rfl (HG.out.h.pick [1] _ rfl) ?_
  clear HN
  generalize World.setRow _ g5 _ = t6 at *
  refine sq_psk [(10, .bool rb)] ?_
  refine sq_fink { tmps := List.toArray (List.append [.int .i64 a0, .agg (aggT a1), .bool a2, undef, .pointer (some ⟨w.heap.size, 0, none⟩), undef, .bool false, .int .i64 zz1, .pointer (some ⟨g5, 0, none⟩), .bool rb, undef, undef, .agg (aggT a1), .int .i64 1048576, .int .i64 zz1, .int .i64 zz1, .bool false, .tuple #[.agg (tqT r), .bool rb], .int .i64 a0, .agg (aggT a1), .agg (aggT a1), .bool a2, .tuple #[.agg (tqT r), .bool rb], .agg (tqT r), .bool rb, undef, undef, undef, undef, undef, undef, undef, undef, undef, undef, undef, undef, undef, undef, undef] ([undef, undef])), defers := [] } ?_
  refine ‹∀ a w, Code.wp _ _ _ a w → _› _ _ ?_
  go_upto_region 6 with (fail)
  replace HS : Hid (Held t6 [(g5, tqT r, 27), (w.heap.size, aggT a1, 42)]) := Lib.hid (HG.out.h.pick [0, 1] _ rfl)
  refine wp_region_linek (S := fun w' => Held w' [(g5, tqT r, 27), (w.heap.size, aggT a1, 42)]) [(true, 0), (true, 1), (false, 2), (true, 3), (false, 4), (true, 5), (true, 6), (true, 7), (false, 8), (false, 9), (true, 10)] HS.out ?_
  refine sq_psk [(0, .int .i64 a0)] ?_
  refine sq_ldk (some 27) (ld_mid' (D := aggT a1) (k := 0) Tryz.underlying42 rfl Tryz.info_lpr (.tail _ (.head _)) rfl) ?_
  refine sq_ck (some 28) Tryz.func24 (to_laws_Pair a1 _) ?_
  rintro e v7 ⟨rfl, bw⟩
  replace HG := Lib.hid (HG.out.on bw)
  clear bw
  refine ⟨_, rfl, (HG.out.h.pick [0, 1] _ rfl), ?_⟩
  refine sq_psk [(3, .bool a2)] ?_
  refine sq_ck (some 30) Tryz.func15 (HIm.out _) ?_
  rintro e v8 ⟨rfl, bw⟩
  replace HG := Lib.hid (HG.out.on bw)
  clear bw
  refine ⟨_, rfl, (HG.out.h.pick [0, 1] _ rfl), ?_⟩
  refine sq_psk [(5, .tuple #[.agg (tqT r), .bool rb]), (6, .agg (tqT r)), (7, .bool rb)] ?_
  replace HG := Lib.hid (HG.out.new (tqT (false, noP, noP)) 27)
  refine sq_allock (some 10) 27 (tqT (false, noP, noP)) (zero_pq _) (HG.out.h.pick [1, 2] _ rfl) ?_
  generalize v8.alloc _ = u9 at *
  generalize v8.heap.size = g9 at *
  have HN := Lib.hid (HG.out.at 0 rfl)
  replace HG : Hid (Blks w (u9.setRow g9 (tqT r)) [(g9, tqT r, 27), (g5, tqT r, 27), (w.heap.size, aggT a1, 42)]) := Lib.hid (HG.out.put 0 rfl (tqT r))
  refine sq_stk 27 g9 (tqT r) HN.out Tryz.infoPq rfl (HG.out.h.pick [1, 2] _ rfl) ?_
  clear HN
  generalize World.setRow _ g9 _ = t10 at *
  refine sq_psk [(10, .bool rb)] ?_
  refine sq_fink { tmps := List.toArray (List.append [.int .i64 a0, .agg (aggT a1), .bool a2, undef, .pointer (some ⟨w.heap.size, 0, none⟩), undef, .bool false, .int .i64 zz1, .pointer (some ⟨g5, 0, none⟩), .bool rb, .pointer (some ⟨g9, 0, none⟩), .bool rb, .agg (aggT a1), .int .i64 1048576, .int .i64 zz1, .int .i64 zz1, .bool false, .tuple #[.agg (tqT r), .bool rb], .int .i64 a0, .agg (aggT a1), .agg (aggT a1), .bool a2, .tuple #[.agg (tqT r), .bool rb], .agg (tqT r), .bool rb, .tuple #[.agg (tqT r), .bool rb], .int .i64 a0, .agg (aggT a1), .agg (aggT a1), .bool a2, .tuple #[.agg (tqT r), .bool rb], .agg (tqT r), .bool rb, undef, undef, undef, undef, undef, undef, undef] ([undef, undef])), defers := [] } ?_
  refine ‹∀ a w, Code.wp _ _ _ a w → _› _ _ ?_
  go_upto_region 7 with (fail)
  replace HS : Hid (Held t10 [(g9, tqT r, 27), (g5, tqT r, 27), (w.heap.size, aggT a1, 42)]) := Lib.hid (HG.out.h.pick [0, 1, 2] _ rfl)
  refine wp_region_linek (S := fun w' => Held w' [(g9, tqT r, 27), (g5, tqT r, 27), (w.heap.size, aggT a1, 42)]) [(true, 0), (true, 1), (false, 2), (true, 3), (true, 4), (true, 5), (true, 6), (true, 7), (true, 8)] HS.out ?_
  refine SQ.out ?_
  refine g_ldk (some 33) (ld_mid' (D := tqT r) (k := 0) Tryz.underlying27 rfl Tryz.infoPq (.head _) rfl) ?_
  refine g_ldk (some 34) (ld_mid' (D := tqT r) (k := 0) Tryz.underlying27 rfl Tryz.infoPq (.tail _ (.head _)) rfl) ?_
  refine g_ck (some 35) Tryz.func21 (same_impl_PairPoint r _) ?_
  rintro e v11 ⟨rfl, bw⟩
  replace HG := Lib.hid (HG.out.on bw)
  clear bw
  refine ⟨_, rfl, (HG.out.h.pick [0, 1, 2] _ rfl), ?_⟩
  refine g_psk [(3, .bool false), (4, .bool false), (5, .bool rb), (6, .bool rb)] ?_
  refine g_v (some 40) (.bool (rb != rb)) (.bool false) (congrArg Value.bool (bne_self_eq_false _)) (by kernel_rfl) (wanted_by (g := 4) (b := false) (d := 37) (by kernel_rfl) (by kernel_rfl) (by kernel_rfl) (by kernel_rfl)) (fun _ => (by kernel_rfl)) ?_
  refine g_psk [(8, .bool false)] ?_
  refine g_normk { tmps := List.toArray (List.append [.int .i64 a0, .agg (aggT a1), .bool a2, undef, .pointer (some ⟨w.heap.size, 0, none⟩), undef, .bool false, .int .i64 zz1, .pointer (some ⟨g5, 0, none⟩), .bool rb, .pointer (some ⟨g9, 0, none⟩), .bool rb, .agg (aggT a1), .int .i64 1048576, .int .i64 zz1, .int .i64 zz1, .bool false, .tuple #[.agg (tqT r), .bool rb], .int .i64 a0, .agg (aggT a1), .agg (aggT a1), .bool a2, .tuple #[.agg (tqT r), .bool rb], .agg (tqT r), .bool rb, .tuple #[.agg (tqT r), .bool rb], .int .i64 a0, .agg (aggT a1), .agg (aggT a1), .bool a2, .tuple #[.agg (tqT r), .bool rb], .agg (tqT r), .bool rb, .agg (tqT r), .agg (tqT r), .bool true, .bool false, .bool false, .bool rb, .bool rb] ([.bool false, .bool false])), defers := [] } ?_
  refine g_done ?_
  refine ‹∀ a w, Code.wp _ _ _ a w → _› _ _ ?_
  go_upto_region 9 with (fail)
  replace HS : Hid (Held v11 [(g9, tqT r, 27), (g5, tqT r, 27), (w.heap.size, aggT a1, 42)]) := Lib.hid (HG.out.h.pick [0, 1, 2] _ rfl)
  refine wp_region_linek (S := fun w' => Held w' [(g9, tqT r, 27), (g5, tqT r, 27), (w.heap.size, aggT a1, 42)]) [(true, 0)] HS.out ?_
  refine sq_psk [(0, .bool true)] ?_
  refine sq_done ?_
  refine ‹∀ a w, Code.wp _ Code.ret _ a w → _› _ _ ?_
  refine wp_ret ?_
  try refine wk_block ?_
  try refine wk_then ?_
  exact wk_ret (v := .bool true) Tryz.results5 (by kernel_rfl) (by kernel_rfl) ⟨rfl, HG.out.b⟩

theorem own : ownKnob Tryz.prog.godebug = none := by kernel_rfl
theorem laidOut : laidOutB Tryz.prog = true := by kernel_rfl
set_option maxRecDepth 100000 in
theorem lifted (os : Os) (started : os.Started) (H : Type) (enc : TypeId × Value → H) :
    ReturnsInHanded {} Tryz.checked os 5 .any (Rows.fnExactLiftPairPointSpec.pre6 enc Tryz.prog Tryz.f5 Rows.fnExactLiftPairPointRow.domain false) (Rows.fnExactLiftPairPointSpec.post enc Tryz.prog Tryz.f5 false true false false) := by
  refine returnsInHanded_of_change (C := Tryz.checked) own started (by kernel_rfl) Tryz.func5
    (ChangeSpec.witness6 (enc := enc) (C := Tryz.checked) false ⟨#[], #[.int .i64 0, .agg #[.string ByteArray.empty, .string ByteArray.empty], .bool false], []⟩ 8 (by kernel_rfl) (by kernel_rfl) (by kernel_rfl) (by kernel_rfl)) ?_
  intro W base args ds gs before hval0 hW hcnd _
  have hval : ∀ (j : Nat) t v, Tryz.f5.params[j]? = some t → args[j]? = some v → Value.okWide Tryz.prog W .any base t v := hval0
  have hW' := hW
  obtain ⟨p, q, hA0, hV, rfl, hfz, hnd⟩ := hW
  have hA : DataW.TrodAll enc Tryz.prog W 0 (fun _ => true) true Tryz.f5.params.toList args.toList ds p := hA0
  rw [Tryz.params5] at hA hval
  obtain ⟨v0, vs0, d0, ds0, p0, q0, hargs, rfl, rfl, h0, r0⟩ := trodAll_cons hA
  obtain ⟨v1, vs1, d1, ds1, p1, q1, rfl, rfl, rfl, h1, r1⟩ := trodAll_cons r0
  obtain ⟨v2, vs2, d2, ds2, p2, q2, rfl, rfl, rfl, h2, r2⟩ := trodAll_cons r1
  obtain ⟨rfl, rfl, rfl⟩ := trodAll_nil r2
  obtain rfl : args = #[v0, v1, v2] := by cases args; simp_all
  obtain ⟨rfl, rfl⟩ := trodVars_none hV
  obtain ⟨a0, rfl, rfl, rfl, w0⟩ := open_int Tryz.underlying3 (hval 0 3 v0 rfl rfl) h0
  obtain ⟨a1, rfl, rfl, rfl, w1⟩ := open_laws_Pair (hval 1 42 v1 rfl rfl) h1
  obtain ⟨a2, rfl, rfl, rfl⟩ := open_bool Tryz.underlying4 (hval 2 4 v2 rfl rfl) h2
  clear hA0 hval0
  simp only [List.append_nil] at hW'
  refine (walk a0 a1 a2 W w0 w1).mono fun e W' ⟨he, bel⟩ => ?_
  subst he
  exact ⟨_, rfl, _, _, _, [], [], [], hW', trodAll_mk1 (shut_bool Tryz.underlying4 _), (trodAll_cons_mk (shut_int Tryz.underlying3 w0) (trodAll_cons_mk (shut_laws_Pair w1) (trodAll_cons_mk (shut_bool Tryz.underlying4 a2) trodAll_mk0))), rfl, bel.frame _, fun h => by cases h⟩

theorem over : Rows.fnExactLiftPairPointRow.holds Tryz.pinned (OpenSpec.ofChange Rows.fnExactLiftPairPointSpec) :=
  OpenClaim.holds_of_wide 5 Tryz.f5 rfl rfl rfl rfl rfl rfl rfl ⟨rfl, rfl, rfl, rfl, rfl⟩ rfl rfl rfl rfl rfl (by kernel_rfl) Tryz.func5 (by kernel_rfl)
    (of_decide_eq_true (by kernel_rfl)) (by unfold Func.isWrapper; first | (rw [if_pos (by decide +kernel)]; kernel_rfl) | (rw [if_neg (by decide +kernel)]; exact ⟨rfl, rfl⟩))
    (fun os started H enc _ => lifted os started H enc)

theorem proved : Rows.FnExactLiftPairPointSaid := over
end Go.Proofs.YtdajgcgliidjbaaGreat.fnExactLiftPairPoint

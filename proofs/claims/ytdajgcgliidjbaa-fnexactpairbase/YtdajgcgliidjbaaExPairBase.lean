/-
  ort Derived.Test.YtdajgcgliidjbaaZQo
-/
import Derived.Test.YtdajgcgliidjbaaRows
import Derived.WalkKit
import Derived.ProofKit
import Derived.OpenShut
import Derived.ShutString
import Derived.ChangeOld
import Derived.Below
import Derived.Test.YtdajgcgliidjbaaZQo
import Derived.Test.YtdajgcgliidjbaaZQx
import Derived.Test.YtdajgcgliidjbaaZQi
namespace Go.Proofs.Ytdajgcgliidjbaa.fnExactPairBase
open Go.ChangeShapes Go.WideShapes Go.ChangeAt Go.RowKit
open Go.ChangeMaps (open_string shut_string)
set_option linter.unusedVariables false
-- Proved: for every int laws.FnExactPairBase returns true: impl.PairBase answers as its model. Conditions: none.
set_option maxRecDepth 8000 in
set_option maxHeartbeats 4000000 in
theorem walk (a0 : Int) (w : World) (_w0 : (Lit.int .i64 a0).wf = true) :
    Calls Try.prog 4 #[.int .i64 a0] w fun e w' => e = .returned (.bool true) ∧ Below w.heap.size w w' := by
  have HSp := Lib.hid (pairBase_all a0)
  have HIm := Lib.hid (pairBase_i a0)
  generalize pbaseT a0 = r at *
  clear _w0
  have HG := Lib.hid (blks0 w)
  go_enter Try.func4, Try.ntmps4
  go_upto_region 1 with (fail)
  have HS := Lib.hid HG.out.h
  replace HS : Hid (Held w []) := Lib.hid (HG.out.h.pick [] _ rfl)
  refine wp_region_line (S := fun w' => Held w' []) [(true, 0), (false, 1), (false, 2), (false, 3)] (by kernel_rfl) (by kernel_rfl) HS.out ?_
  refine sq_ps [(0, .int .i64 a0)] (by kernel_rfl) ?_
  refine sq_c (some 6) Try.func11 (HSp.out _) (by kernel_rfl) ?_
  rintro e v1 ⟨rfl, bw⟩
  replace HG := Lib.hid (HG.out.on bw)
  clear bw
  refine ⟨_, rfl, (HG.out.h.pick [] _ rfl), ?_⟩
  replace HG := Lib.hid (HG.out.new (tqT (false, noP, noP)) 30)
  refine sq_alloc (some 3) 30 (tqT (false, noP, noP)) (by kernel_rfl) (by kernel_rfl) (by kernel_rfl) (by kernel_rfl) (zero_pq _) (HG.out.h.pick [] _ rfl) ?_
  generalize v1.alloc _ = u2 at *
  generalize v1.heap.size = g2 at *
  have HN := Lib.hid (HG.out.at 0 rfl)
  replace HG : Hid (Blks w (u2.setRow g2 (tqT r)) [(g2, tqT r, 30)]) := Lib.hid (HG.out.put 0 rfl (tqT r))
  refine sq_st 30 g2 (tqT r) HN.out Try.infoPq rfl (by kernel_rfl) (HG.out.h.pick [] _ rfl) (by kernel_rfl) ?_
  clear HN
  generalize World.setRow _ g2 _ = t3 at *
  refine sq_fin { tmps := List.toArray ([.int .i64 a0, undef, .bool false, .pointer (some ⟨g2, 0, none⟩), undef, .int .i64 a0, .agg (tqT r), undef, undef, undef, undef, undef, undef]), defers := [] } (by kernel_rfl) ?_
  refine (by assumption : ∀ (a : Act) (w_1 : World), Code.wp _ _ _ a w_1 → _) _ _ ?_
  go_upto_region 2 with (fail)
  replace HS : Hid (Held t3 [(g2, tqT r, 30)]) := Lib.hid (HG.out.h.pick [0] _ rfl)
  refine wp_region_line (S := fun w' => Held w' [(g2, tqT r, 30)]) [(true, 0), (false, 1), (false, 2), (false, 3)] (by kernel_rfl) (by kernel_rfl) HS.out ?_
  refine sq_ps [(0, .int .i64 a0)] (by kernel_rfl) ?_
  refine sq_c (some 8) Try.func12 (HIm.out _) (by kernel_rfl) ?_
  rintro e v4 ⟨rfl, bw⟩
  replace HG := Lib.hid (HG.out.on bw)
  clear bw
  refine ⟨_, rfl, (HG.out.h.pick [0] _ rfl), ?_⟩
  replace HG := Lib.hid (HG.out.new (tqT (false, noP, noP)) 30)
  refine sq_alloc (some 4) 30 (tqT (false, noP, noP)) (by kernel_rfl) (by kernel_rfl) (by kernel_rfl) (by kernel_rfl) (zero_pq _) (HG.out.h.pick [1] _ rfl) ?_
  generalize v4.alloc _ = u5 at *
  generalize v4.heap.size = g5 at *
  have HN := Lib.hid (HG.out.at 0 rfl)
  replace HG : Hid (Blks w (u5.setRow g5 (tqT r)) [(g5, tqT r, 30), (g2, tqT r, 30)]) := Lib.hid (HG.out.put 0 rfl (tqT r))
  refine sq_st 30 g5 (tqT r) HN.out Try.infoPq rfl (by kernel_rfl) (HG.out.h.pick [1] _ rfl) (by kernel_rfl) ?_
  clear HN
  generalize World.setRow _ g5 _ = t6 at *
  refine sq_fin { tmps := List.toArray ([.int .i64 a0, undef, .bool false, .pointer (some ⟨g2, 0, none⟩), .pointer (some ⟨g5, 0, none⟩), .int .i64 a0, .agg (tqT r), .int .i64 a0, .agg (tqT r), undef, undef, undef, undef]), defers := [] } (by kernel_rfl) ?_
  refine (by assumption : ∀ (a : Act) (w_1 : World), Code.wp _ _ _ a w_1 → _) _ _ ?_
  go_upto_region 3 with (fail)
  replace HS : Hid (Held t6 [(g5, tqT r, 30), (g2, tqT r, 30)]) := Lib.hid (HG.out.h.pick [0, 1] _ rfl)
  refine wp_region_line (S := fun w' => Held w' [(g5, tqT r, 30), (g2, tqT r, 30)]) [(true, 0), (true, 1), (false, 2), (true, 3)] (by kernel_rfl) (by kernel_rfl) HS.out ?_
  refine sq_ld (some 9) (ld_mid' (D := tqT r) (k := 0) Try.underlying30 rfl Try.infoPq (.head _) rfl) (by kernel_rfl) ?_
  refine sq_ld (some 10) (ld_mid' (D := tqT r) (k := 0) Try.underlying30 rfl Try.infoPq (.tail _ (.head _)) rfl) (by kernel_rfl) ?_
  refine sq_c (some 11) Try.func13 (same_impl_PairPoint r _) (by kernel_rfl) ?_
  rintro e v7 ⟨rfl, bw⟩
  replace HG := Lib.hid (HG.out.on bw)
  clear bw
  refine ⟨_, rfl, (HG.out.h.pick [0, 1] _ rfl), ?_⟩
  refine sq_ps [(3, .bool false)] (by kernel_rfl) ?_
  refine sq_fin { tmps := List.toArray ([.int .i64 a0, undef, .bool false, .pointer (some ⟨g2, 0, none⟩), .pointer (some ⟨g5, 0, none⟩), .int .i64 a0, .agg (tqT r), .int .i64 a0, .agg (tqT r), .agg (tqT r), .agg (tqT r), .bool true, .bool false]), defers := [] } (by kernel_rfl) ?_
  refine (by assumption : ∀ (a : Act) (w_1 : World), Code.wp _ _ _ a w_1 → _) _ _ ?_
  go_upto_region 5 with (fail)
  replace HS : Hid (Held v7 [(g5, tqT r, 30), (g2, tqT r, 30)]) := Lib.hid (HG.out.h.pick [0, 1] _ rfl)
  refine wp_region_line (S := fun w' => Held w' [(g5, tqT r, 30), (g2, tqT r, 30)]) [(true, 0)] (by kernel_rfl) (by kernel_rfl) HS.out ?_
  refine sq_ps [(0, .bool true)] (by kernel_rfl) ?_
  refine sq_done ?_
  refine (by assumption : ∀ (a : Act) (w_1 : World), Code.wp _ Code.ret _ a w_1 → _) _ _ ?_
  refine wp_ret ?_
  try refine wk_block ?_
  try refine wk_then ?_
  exact wk_ret (v := .bool true) Try.results4 (by kernel_rfl) (by kernel_rfl) ⟨rfl, HG.out.b⟩

theorem own : ownKnob Try.prog.godebug = none := by kernel_rfl
theorem laidOut : laidOutB Try.prog = true := by kernel_rfl
set_option maxRecDepth 100000 in
theorem lifted (os : Os) (started : os.Started) (H : Type) (enc : TypeId × Value → H) :
    ReturnsInHanded {} Try.checked os 4 .any (Rows.fnExactPairBaseSpec.pre6 enc Try.prog Try.f4 Rows.fnExactPairBaseRow.domain false) (Rows.fnExactPairBaseSpec.post enc Try.prog Try.f4 false true false false) := by
  refine returnsInHanded_of_change (C := Try.checked) own started (by kernel_rfl) Try.func4
    (ChangeSpec.witness6 (enc := enc) (C := Try.checked) false ⟨#[], #[.int .i64 0], []⟩ 8 (by kernel_rfl) (by kernel_rfl) (by kernel_rfl) (by kernel_rfl)) ?_
  intro W base args ds gs before hval0 hW hcnd _
  have hval : ∀ (j : Nat) t v, Try.f4.params[j]? = some t → args[j]? = some v → Value.okWide Try.prog W .any base t v := hval0
  have hW' := hW
  obtain ⟨p, q, hA0, hV, rfl, hfz, hnd⟩ := hW
  have hA : DataW.TrodAll enc Try.prog W 0 (fun _ => true) true Try.f4.params.toList args.toList ds p := hA0
  rw [Try.params4] at hA hval
  obtain ⟨v0, vs0, d0, ds0, p0, q0, hargs, rfl, rfl, h0, r0⟩ := trodAll_cons hA
  obtain ⟨rfl, rfl, rfl⟩ := trodAll_nil r0
  obtain rfl : args = #[v0] := by cases args; simp_all
  obtain ⟨rfl, rfl⟩ := trodVars_none hV
  obtain ⟨a0, rfl, rfl, rfl, w0⟩ := open_int Try.underlying3 (hval 0 3 v0 rfl rfl) h0
  clear hA0 hval0
  simp only [List.append_nil] at hW'
  refine (walk a0 W w0).mono fun e W' ⟨he, bel⟩ => ?_
  subst he
  exact ⟨_, rfl, _, _, _, [], [], [], hW', trodAll_mk1 (shut_bool Try.underlying4 _), (trodAll_cons_mk (shut_int Try.underlying3 w0) trodAll_mk0), rfl, bel.frame _, fun h => by cases h⟩

theorem over : Rows.fnExactPairBaseRow.holds Try.pinned (OpenSpec.ofChange Rows.fnExactPairBaseSpec) :=
  OpenClaim.holds_of_wide 4 Try.f4 rfl rfl rfl rfl rfl rfl rfl ⟨rfl, rfl, rfl, rfl, rfl⟩ rfl rfl rfl rfl rfl (by kernel_rfl) Try.func4 (by kernel_rfl)
    (of_decide_eq_true (by kernel_rfl)) (by unfold Func.isWrapper; first | (rw [if_pos (by decide +kernel)]; kernel_rfl) | (rw [if_neg (by decide +kernel)]; exact ⟨rfl, rfl⟩))
    (fun os started H enc _ => lifted os started H enc)

theorem proved : Rows.FnExactPairBaseSaid := over
end Go.Proofs.Ytdajgcgliidjbaa.fnExactPairBase

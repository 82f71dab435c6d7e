import Derived.Test.YtdajgcgliidjbaaZQo
namespace Go.Proofs.Ytdajgcgliidjbaa
open Go.RowKit
set_option maxRecDepth 8000 in
set_option maxHeartbeats 4000000 in
theorem sz_laws_Pair (x : Pt) (l : Int) (w : World) : Calls Try.prog 18 #[.agg (aggT x), .int .i64 l] w fun e w' => (∃ z, e = .returned (.int .i64 z)) ∧ Below w.heap.size w w' := by
  obtain ⟨x0, x1⟩ := x
  have HG := Lib.hid (blks1 w (aggT (x0, x1)) 23)
  go_enter Try.func18, Try.ntmps18
  go_upto_region 1 with (fail)
  generalize w.alloc _ = w0 at *
  have HS := Lib.hid HG.out.h
  replace HS : Hid (Held w0 [(w.heap.size, aggT (x0, x1), 23)]) := Lib.hid (HG.out.h.pick [0] _ rfl)
  refine wp_region_line (S := fun w' => Held w' [(w.heap.size, aggT (x0, x1), 23)]) [(true, 0), (true, 1), (true, 2), (true, 3), (true, 4), (true, 5)] (by kernel_rfl) (by kernel_rfl) HS.out ?_
  refine sq_ps [(0, .int .i64 l), (1, .pointer (some ⟨w.heap.size, 0, none⟩))] (by kernel_rfl) ?_
  refine sq_ld (some 7) (wk_s (.head _) (k := 0) rfl) (by kernel_rfl) ?_
  refine sq_ps [(3, .int .i64 (x0.size : Int))] (by kernel_rfl) ?_
  obtain ⟨z1, hz1⟩ : ∃ z, IntKind.i64.wrap (l - (x0.size : Int)) = z := ⟨_, rfl⟩
  refine sq_v (some 9) (.int .i64 (IntKind.i64.wrap (l - (x0.size : Int)))) (.int .i64 z1) (congrArg (Value.int .i64) hz1) (by kernel_rfl) (by kernel_rfl) (fun _ => (by kernel_rfl)) ?_
  refine sq_ps [(5, .int .i64 z1)] (by kernel_rfl) ?_
  refine sq_fin { tmps := List.toArray ([.agg (aggT (x0, x1)), .int .i64 z1, .pointer (some ⟨w.heap.size, 0, none⟩), undef, .int .i64 0, .int .i64 l, .pointer (some ⟨w.heap.size, 0, none⟩), .string x0, .int .i64 (x0.size : Int), .int .i64 z1, undef, undef, undef, undef, undef, undef, undef, undef, undef, undef]), defers := [] } (by kernel_rfl) ?_
  refine (by assumption : ∀ (a : Act) (w_1 : World), Code.wp _ _ _ a w_1 → _) _ _ ?_
  go_upto_region 2 with (fail)
  replace HS : Hid (Held w0 [(w.heap.size, aggT (x0, x1), 23)]) := Lib.hid (HG.out.h.pick [0] _ rfl)
  refine wp_region_line (S := fun w' => Held w' [(w.heap.size, aggT (x0, x1), 23)]) [(true, 0), (true, 1)] (by kernel_rfl) (by kernel_rfl) HS.out ?_
  refine sq_ps [(0, .int .i64 z1), (1, .bool (decide (z1 < 0)))] (by kernel_rfl) ?_
  refine sq_fin { tmps := List.toArray ([.agg (aggT (x0, x1)), .int .i64 z1, .pointer (some ⟨w.heap.size, 0, none⟩), undef, .int .i64 0, .int .i64 l, .pointer (some ⟨w.heap.size, 0, none⟩), .string x0, .int .i64 (x0.size : Int), .int .i64 z1, .int .i64 z1, .bool (decide (z1 < 0)), undef, undef, undef, undef, undef, undef, undef, undef]), defers := [] } (by kernel_rfl) ?_
  refine (by assumption : ∀ (a : Act) (w_1 : World), Code.wp _ _ _ a w_1 → _) _ _ ?_
  by_cases hc2 : (decide (z1 < 0)) = true
  · rw [hc2]
    go_upto_region 3 with (fail)
    replace HS : Hid (Held w0 [(w.heap.size, aggT (x0, x1), 23)]) := Lib.hid (HG.out.h.pick [0] _ rfl)
    refine wp_region_line (S := fun w' => Held w' [(w.heap.size, aggT (x0, x1), 23)]) [(true, 0)] (by kernel_rfl) (by kernel_rfl) HS.out ?_
    refine sq_ps [(0, .int .i64 (-1))] (by kernel_rfl) ?_
    refine sq_done ?_
    refine (by assumption : ∀ (a : Act) (w_1 : World), Code.wp _ Code.ret _ a w_1 → _) _ _ ?_
    refine wp_ret ?_
    try refine wk_block ?_
    try refine wk_then ?_
    exact wk_ret (v := .int .i64 (-1)) Try.results18 (by kernel_rfl) (by kernel_rfl) ⟨⟨_, rfl⟩, HG.out.b⟩
  · replace hc2 := eq_false_of_ne_true hc2
    rw [hc2]
    go_upto_region 4 with (fail)
    replace HS : Hid (Held w0 [(w.heap.size, aggT (x0, x1), 23)]) := Lib.hid (HG.out.h.pick [0] _ rfl)
    refine wp_region_line (S := fun w' => Held w' [(w.heap.size, aggT (x0, x1), 23)]) [(true, 0), (true, 1), (true, 2), (true, 3), (true, 4), (true, 5)] (by kernel_rfl) (by kernel_rfl) HS.out ?_
    refine sq_ps [(0, .int .i64 z1), (1, .pointer (some ⟨w.heap.size, 1, none⟩))] (by kernel_rfl) ?_
    refine sq_ld (some 14) (wk_s (.head _) (k := 1) rfl) (by kernel_rfl) ?_
    refine sq_ps [(3, .int .i64 (x1.size : Int))] (by kernel_rfl) ?_
    obtain ⟨z3, hz3⟩ : ∃ z, IntKind.i64.wrap (z1 - (x1.size : Int)) = z := ⟨_, rfl⟩
    refine sq_v (some 16) (.int .i64 (IntKind.i64.wrap (z1 - (x1.size : Int)))) (.int .i64 z3) (congrArg (Value.int .i64) hz3) (by kernel_rfl) (by kernel_rfl) (fun _ => (by kernel_rfl)) ?_
    refine sq_ps [(5, .int .i64 z3)] (by kernel_rfl) ?_
    refine sq_fin { tmps := List.toArray ([.agg (aggT (x0, x1)), .int .i64 z3, .pointer (some ⟨w.heap.size, 0, none⟩), undef, .int .i64 0, .int .i64 l, .pointer (some ⟨w.heap.size, 0, none⟩), .string x0, .int .i64 (x0.size : Int), .int .i64 z1, .int .i64 z1, .bool false, .int .i64 z1, .pointer (some ⟨w.heap.size, 1, none⟩), .string x1, .int .i64 (x1.size : Int), .int .i64 z3, undef, undef, undef]), defers := [] } (by kernel_rfl) ?_
    refine (by assumption : ∀ (a : Act) (w_1 : World), Code.wp _ _ _ a w_1 → _) _ _ ?_
    go_upto_region 5 with (fail)
    replace HS : Hid (Held w0 [(w.heap.size, aggT (x0, x1), 23)]) := Lib.hid (HG.out.h.pick [0] _ rfl)
    refine wp_region_line (S := fun w' => Held w' [(w.heap.size, aggT (x0, x1), 23)]) [(true, 0), (true, 1)] (by kernel_rfl) (by kernel_rfl) HS.out ?_
    refine sq_ps [(0, .int .i64 z3), (1, .bool (decide (z3 < 0)))] (by kernel_rfl) ?_
    refine sq_fin { tmps := List.toArray ([.agg (aggT (x0, x1)), .int .i64 z3, .pointer (some ⟨w.heap.size, 0, none⟩), undef, .int .i64 0, .int .i64 l, .pointer (some ⟨w.heap.size, 0, none⟩), .string x0, .int .i64 (x0.size : Int), .int .i64 z1, .int .i64 z1, .bool false, .int .i64 z1, .pointer (some ⟨w.heap.size, 1, none⟩), .string x1, .int .i64 (x1.size : Int), .int .i64 z3, .int .i64 z3, .bool (decide (z3 < 0)), undef]), defers := [] } (by kernel_rfl) ?_
    refine (by assumption : ∀ (a : Act) (w_1 : World), Code.wp _ _ _ a w_1 → _) _ _ ?_
    by_cases hc4 : (decide (z3 < 0)) = true
    · rw [hc4]
      go_upto_region 6 with (fail)
      replace HS : Hid (Held w0 [(w.heap.size, aggT (x0, x1), 23)]) := Lib.hid (HG.out.h.pick [0] _ rfl)
      refine wp_region_line (S := fun w' => Held w' [(w.heap.size, aggT (x0, x1), 23)]) [(true, 0)] (by kernel_rfl) (by kernel_rfl) HS.out ?_
      refine sq_ps [(0, .int .i64 (-1))] (by kernel_rfl) ?_
      refine sq_done ?_
      refine (by assumption : ∀ (a : Act) (w_1 : World), Code.wp _ Code.ret _ a w_1 → _) _ _ ?_
      refine wp_ret ?_
      try refine wk_block ?_
      try refine wk_then ?_
      exact wk_ret (v := .int .i64 (-1)) Try.results18 (by kernel_rfl) (by kernel_rfl) ⟨⟨_, rfl⟩, HG.out.b⟩
    · replace hc4 := eq_false_of_ne_true hc4
      rw [hc4]
      go_upto_region 7 with (fail)
      replace HS : Hid (Held w0 [(w.heap.size, aggT (x0, x1), 23)]) := Lib.hid (HG.out.h.pick [0] _ rfl)
      refine wp_region_line (S := fun w' => Held w' [(w.heap.size, aggT (x0, x1), 23)]) [(true, 0), (true, 1)] (by kernel_rfl) (by kernel_rfl) HS.out ?_
      refine sq_ps [(0, .int .i64 z3), (1, .int .i64 z3)] (by kernel_rfl) ?_
      refine sq_done ?_
      refine (by assumption : ∀ (a : Act) (w_1 : World), Code.wp _ Code.ret _ a w_1 → _) _ _ ?_
      refine wp_ret ?_
      try refine wk_block ?_
      try refine wk_then ?_
      exact wk_ret (v := .int .i64 z3) Try.results18 (by kernel_rfl) (by kernel_rfl) ⟨⟨_, rfl⟩, HG.out.b⟩
set_option maxRecDepth 8000 in
set_option maxHeartbeats 4000000 in
theorem to_laws_Pair (x : Pt) (w : World) : Calls Try.prog 25 #[.agg (aggT x)] w fun e w' => e = .returned (.agg (aggT x)) ∧ Below w.heap.size w w' := by
  obtain ⟨x0, x1⟩ := x
  have HG := Lib.hid (blks2 w (aggT (x0, x1)) (#[.string ⟨#[]⟩, .string ⟨#[]⟩]) 23 28)
  go_enter Try.func25, Try.ntmps25
  go_upto_region 1 with (fail)
  generalize (w.alloc _).alloc _ = w0 at *
  replace HG : Hid (Blks w w0 [(w.heap.size + 1, aggT noP, 28), (w.heap.size, aggT (x0, x1), 23)]) := HG
  have HS := Lib.hid HG.out.h
  replace HS : Hid (Held w0 [((w.heap.size + 1), aggT noP, 28), (w.heap.size, aggT (x0, x1), 23)]) := Lib.hid (HG.out.h.pick [0, 1] _ rfl)
  refine wp_region_line (S := fun w' => Held w' [((w.heap.size + 1), aggT noP, 28), (w.heap.size, aggT (x0, x1), 23)]) [(false, 0)] (by kernel_rfl) (by kernel_rfl) HS.out ?_
  replace HG := Lib.hid (HG.out.new (aggT noP) 28)
  refine sq_alloc (some 3) 28 (aggT noP) (by kernel_rfl) (by kernel_rfl) (by kernel_rfl) (by kernel_rfl) (zero_pr _) (HG.out.h.pick [1, 2] _ rfl) ?_
  generalize w0.alloc _ = u1 at *
  generalize w0.heap.size = g1 at *
  refine sq_fin { tmps := List.toArray ([.agg (aggT (x0, x1)), .pointer (some ⟨w.heap.size, 0, none⟩), .pointer (some ⟨(w.heap.size + 1), 0, none⟩), .pointer (some ⟨g1, 0, none⟩), undef, undef, undef, undef, undef, undef, undef]), defers := [] } (by kernel_rfl) ?_
  refine (by assumption : ∀ (a : Act) (w_1 : World), Code.wp _ _ _ a w_1 → _) _ _ ?_
  go_upto_region 2 with (fail)
  replace HS : Hid (Held u1 [((w.heap.size + 1), aggT noP, 28), (w.heap.size, aggT (x0, x1), 23)]) := Lib.hid (HG.out.h.pick [1, 2] _ rfl)
  refine wp_region_line (S := fun w' => Held w' [((w.heap.size + 1), aggT noP, 28), (w.heap.size, aggT (x0, x1), 23)]) [(true, 0), (true, 1), (true, 2), (false, 3)] (by kernel_rfl) (by kernel_rfl) HS.out ?_
  refine sq_ps [(0, .pointer (some ⟨w.heap.size, 0, none⟩))] (by kernel_rfl) ?_
  refine sq_ld (some 5) (wk_s (.tail _ (.head _)) (k := 0) rfl) (by kernel_rfl) ?_
  refine sq_ps [(2, .pointer (some ⟨g1, 0, none⟩))] (by kernel_rfl) ?_
  have HN := Lib.hid (HG.out.at 0 rfl)
  replace HG : Hid (Blks w (u1.setRow g1 (aggT (x0, noP.2))) [(g1, aggT (x0, noP.2), 28), ((w.heap.size + 1), aggT noP, 28), (w.heap.size, aggT (x0, x1), 23)]) := Lib.hid (HG.out.put 0 rfl (aggT (x0, noP.2)))
  refine sq_stm 9 g1 0 (.string x0) (aggT (x0, noP.2)) HN.out Try.wkS (by kernel_rfl) (by kernel_rfl) rfl (HG.out.h.pick [1, 2] _ rfl) (by kernel_rfl) ?_
  clear HN
  generalize World.setRow _ g1 _ = t2 at *
  refine sq_fin { tmps := List.toArray ([.agg (aggT (x0, x1)), .pointer (some ⟨w.heap.size, 0, none⟩), .pointer (some ⟨(w.heap.size + 1), 0, none⟩), .pointer (some ⟨g1, 0, none⟩), .pointer (some ⟨w.heap.size, 0, none⟩), .string x0, .pointer (some ⟨g1, 0, none⟩), undef, undef, undef, undef]), defers := [] } (by kernel_rfl) ?_
  refine (by assumption : ∀ (a : Act) (w_1 : World), Code.wp _ _ _ a w_1 → _) _ _ ?_
  go_upto_region 3 with (fail)
  replace HS : Hid (Held t2 [((w.heap.size + 1), aggT noP, 28), (w.heap.size, aggT (x0, x1), 23)]) := Lib.hid (HG.out.h.pick [1, 2] _ rfl)
  refine wp_region_line (S := fun w' => Held w' [((w.heap.size + 1), aggT noP, 28), (w.heap.size, aggT (x0, x1), 23)]) [(true, 0), (true, 1), (true, 2), (false, 3)] (by kernel_rfl) (by kernel_rfl) HS.out ?_
  refine sq_ps [(0, .pointer (some ⟨w.heap.size, 1, none⟩))] (by kernel_rfl) ?_
  refine sq_ld (some 8) (wk_s (.tail _ (.head _)) (k := 1) rfl) (by kernel_rfl) ?_
  refine sq_ps [(2, .pointer (some ⟨g1, 1, none⟩))] (by kernel_rfl) ?_
  have HN := Lib.hid (HG.out.at 0 rfl)
  replace HG : Hid (Blks w (t2.setRow g1 (aggT (x0, x1))) [(g1, aggT (x0, x1), 28), ((w.heap.size + 1), aggT noP, 28), (w.heap.size, aggT (x0, x1), 23)]) := Lib.hid (HG.out.put 0 rfl (aggT (x0, x1)))
  refine sq_stm 9 g1 1 (.string x1) (aggT (x0, x1)) HN.out Try.wkS (by kernel_rfl) (by kernel_rfl) rfl (HG.out.h.pick [1, 2] _ rfl) (by kernel_rfl) ?_
  clear HN
  generalize World.setRow _ g1 _ = t3 at *
  refine sq_fin { tmps := List.toArray ([.agg (aggT (x0, x1)), .pointer (some ⟨w.heap.size, 0, none⟩), .pointer (some ⟨(w.heap.size + 1), 0, none⟩), .pointer (some ⟨g1, 0, none⟩), .pointer (some ⟨w.heap.size, 0, none⟩), .string x0, .pointer (some ⟨g1, 0, none⟩), .pointer (some ⟨w.heap.size, 1, none⟩), .string x1, .pointer (some ⟨g1, 1, none⟩), undef]), defers := [] } (by kernel_rfl) ?_
  refine (by assumption : ∀ (a : Act) (w_1 : World), Code.wp _ _ _ a w_1 → _) _ _ ?_
  go_upto_region 4 with (fail)
  replace HS : Hid (Held t3 [(g1, aggT (x0, x1), 28), (w.heap.size, aggT (x0, x1), 23)]) := Lib.hid (HG.out.h.pick [0, 2] _ rfl)
  refine wp_region_line (S := fun w' => Held w' [(g1, aggT (x0, x1), 28), (w.heap.size, aggT (x0, x1), 23)]) [(true, 0), (false, 1)] (by kernel_rfl) (by kernel_rfl) HS.out ?_
  refine sq_ld (some 10) (ld_mid' (D := aggT (x0, x1)) (k := 0) Try.underlying28 rfl Try.infoP (.head _) rfl) (by kernel_rfl) ?_
  have HN := Lib.hid (HG.out.at 1 rfl)
  replace HG : Hid (Blks w (t3.setRow (w.heap.size + 1) (aggT (x0, x1))) [(g1, aggT (x0, x1), 28), ((w.heap.size + 1), aggT (x0, x1), 28), (w.heap.size, aggT (x0, x1), 23)]) := Lib.hid (HG.out.put 1 rfl (aggT (x0, x1)))
  refine sq_st 28 (w.heap.size + 1) (aggT (x0, x1)) HN.out Try.infoP rfl (by kernel_rfl) (HG.out.h.pick [0, 2] _ rfl) (by kernel_rfl) ?_
  clear HN
  generalize World.setRow _ (w.heap.size + 1) _ = t4 at *
  refine sq_done ?_
  refine (by assumption : ∀ (a : Act) (w_1 : World), Code.wp _ Code.ret _ a w_1 → _) _ _ ?_
  refine wp_ret ?_
  try refine wk_block ?_
  try refine wk_then ?_
  exact bodyPost_ret (results_cell_row Try.results25 _ _ (w.heap.size + 1) _ _ _ _ (by kernel_rfl) (HG.out.at 1 rfl) Try.underlying28 rfl Try.infoP) (by kernel_rfl) ⟨rfl, HG.out.b⟩
set_option maxRecDepth 8000 in
set_option maxHeartbeats 4000000 in
theorem same_impl_Pair (x : Pt) (w : World) : Calls Try.prog 30 #[.agg (aggT x), .agg (aggT x)] w fun e w' => e = .returned (.bool true) ∧ Below w.heap.size w w' := by
  obtain ⟨x0, x1⟩ := x
  have HG := Lib.hid (blks2 w (aggT (x0, x1)) (aggT (x0, x1)) 28 28)
  go_enter Try.func30, Try.ntmps30
  go_upto_region 1 with (fail)
  generalize (w.alloc _).alloc _ = w0 at *
  have HS := Lib.hid HG.out.h
  replace HS : Hid (Held w0 [((w.heap.size + 1), aggT (x0, x1), 28), (w.heap.size, aggT (x0, x1), 28)]) := Lib.hid (HG.out.h.pick [0, 1] _ rfl)
  refine wp_region_line (S := fun w' => Held w' [((w.heap.size + 1), aggT (x0, x1), 28), (w.heap.size, aggT (x0, x1), 28)]) [(true, 0), (true, 1), (true, 2), (true, 3), (true, 4)] (by kernel_rfl) (by kernel_rfl) HS.out ?_
  refine sq_ps [(0, .pointer (some ⟨w.heap.size, 0, none⟩))] (by kernel_rfl) ?_
  refine sq_ld (some 6) (wk_s (.tail _ (.head _)) (k := 0) rfl) (by kernel_rfl) ?_
  refine sq_ps [(2, .pointer (some ⟨(w.heap.size + 1), 0, none⟩))] (by kernel_rfl) ?_
  refine sq_ld (some 8) (wk_s (.head _) (k := 0) rfl) (by kernel_rfl) ?_
  refine sq_take (some 9) (.bool false) (by kernel_rfl) (ne_str (by kernel_rfl) (.tmp 6) (.tmp 8) (by kernel_rfl) x0 x0 true (decide_eq_true rfl) (by kernel_rfl) (by kernel_rfl)) ?_
  refine sq_fin { tmps := List.toArray ([.agg (aggT (x0, x1)), .agg (aggT (x0, x1)), .pointer (some ⟨w.heap.size, 0, none⟩), .pointer (some ⟨(w.heap.size + 1), 0, none⟩), .bool false, .pointer (some ⟨w.heap.size, 0, none⟩), .string x0, .pointer (some ⟨(w.heap.size + 1), 0, none⟩), .string x0, .bool false, undef, undef, undef, undef, undef]), defers := [] } (by kernel_rfl) ?_
  refine (by assumption : ∀ (a : Act) (w_1 : World), Code.wp _ _ _ a w_1 → _) _ _ ?_
  go_upto_region 3 with (fail)
  replace HS : Hid (Held w0 [((w.heap.size + 1), aggT (x0, x1), 28), (w.heap.size, aggT (x0, x1), 28)]) := Lib.hid (HG.out.h.pick [0, 1] _ rfl)
  refine wp_region_line (S := fun w' => Held w' [((w.heap.size + 1), aggT (x0, x1), 28), (w.heap.size, aggT (x0, x1), 28)]) [(true, 0), (true, 1), (true, 2), (true, 3), (true, 4)] (by kernel_rfl) (by kernel_rfl) HS.out ?_
  refine sq_ps [(0, .pointer (some ⟨w.heap.size, 1, none⟩))] (by kernel_rfl) ?_
  refine sq_ld (some 11) (wk_s (.tail _ (.head _)) (k := 1) rfl) (by kernel_rfl) ?_
  refine sq_ps [(2, .pointer (some ⟨(w.heap.size + 1), 1, none⟩))] (by kernel_rfl) ?_
  refine sq_ld (some 13) (wk_s (.head _) (k := 1) rfl) (by kernel_rfl) ?_
  refine sq_take (some 14) (.bool false) (by kernel_rfl) (ne_str (by kernel_rfl) (.tmp 11) (.tmp 13) (by kernel_rfl) x1 x1 true (decide_eq_true rfl) (by kernel_rfl) (by kernel_rfl)) ?_
  refine sq_fin { tmps := List.toArray ([.agg (aggT (x0, x1)), .agg (aggT (x0, x1)), .pointer (some ⟨w.heap.size, 0, none⟩), .pointer (some ⟨(w.heap.size + 1), 0, none⟩), .bool false, .pointer (some ⟨w.heap.size, 0, none⟩), .string x0, .pointer (some ⟨(w.heap.size + 1), 0, none⟩), .string x0, .bool false, .pointer (some ⟨w.heap.size, 1, none⟩), .string x1, .pointer (some ⟨(w.heap.size + 1), 1, none⟩), .string x1, .bool false]), defers := [] } (by kernel_rfl) ?_
  refine (by assumption : ∀ (a : Act) (w_1 : World), Code.wp _ _ _ a w_1 → _) _ _ ?_
  go_upto_region 5 with (fail)
  replace HS : Hid (Held w0 [((w.heap.size + 1), aggT (x0, x1), 28), (w.heap.size, aggT (x0, x1), 28)]) := Lib.hid (HG.out.h.pick [0, 1] _ rfl)
  refine wp_region_line (S := fun w' => Held w' [((w.heap.size + 1), aggT (x0, x1), 28), (w.heap.size, aggT (x0, x1), 28)]) [(true, 0)] (by kernel_rfl) (by kernel_rfl) HS.out ?_
  refine sq_ps [(0, .bool true)] (by kernel_rfl) ?_
  refine sq_done ?_
  refine (by assumption : ∀ (a : Act) (w_1 : World), Code.wp _ Code.ret _ a w_1 → _) _ _ ?_
  refine wp_ret ?_
  try refine wk_block ?_
  try refine wk_then ?_
  exact wk_ret (v := .bool true) Try.results30 (by kernel_rfl) (by kernel_rfl) ⟨rfl, HG.out.b⟩
set_option maxRecDepth 8000 in
set_option maxHeartbeats 4000000 in
theorem sz_laws_PairPoint (x : Tq) (l : Int) (w : World) : Calls Try.prog 7 #[.agg (tqT x), .int .i64 l] w fun e w' => (∃ z, e = .returned (.int .i64 z)) ∧ Below w.heap.size w w' := by
  obtain ⟨x0, x1, x2⟩ := x
  have HG := Lib.hid (blks1 w (tqT (x0, x1, x2)) 25)
  go_enter Try.func7, Try.ntmps7
  go_upto_region 1 with (fail)
  generalize w.alloc _ = w0 at *
  have HS := Lib.hid HG.out.h
  replace HS : Hid (Held w0 [(w.heap.size, tqT (x0, x1, x2), 25)]) := Lib.hid (HG.out.h.pick [0] _ rfl)
  refine wp_region_line (S := fun w' => Held w' [(w.heap.size, tqT (x0, x1, x2), 25)]) [(true, 0), (true, 1), (true, 2), (false, 3), (true, 4)] (by kernel_rfl) (by kernel_rfl) HS.out ?_
  refine sq_ps [(0, .pointer (some ⟨w.heap.size, 1, none⟩))] (by kernel_rfl) ?_
  refine sq_ld (some 6) (ld_mid' (D := aggT x1) (k := 1) Try.underlying23 rfl Try.info_lpr (.head _) rfl) (by kernel_rfl) ?_
  refine sq_ps [(2, .int .i64 l)] (by kernel_rfl) ?_
  refine sq_c (some 8) Try.func18 (sz_laws_Pair x1 ( l) _) (by kernel_rfl) ?_
  rintro e v1 ⟨⟨zz1, rfl⟩, bw⟩
  replace HG := Lib.hid (HG.out.on bw)
  clear bw
  refine ⟨_, rfl, (HG.out.h.pick [0] _ rfl), ?_⟩
  refine sq_ps [(4, .int .i64 zz1)] (by kernel_rfl) ?_
  refine sq_fin { tmps := List.toArray ([.agg (tqT (x0, x1, x2)), .int .i64 zz1, .pointer (some ⟨w.heap.size, 0, none⟩), undef, .int .i64 0, .pointer (some ⟨w.heap.size, 1, none⟩), .agg (aggT x1), .int .i64 l, .int .i64 zz1, undef, undef, undef, undef, undef, undef, undef, undef, undef]), defers := [] } (by kernel_rfl) ?_
  refine (by assumption : ∀ (a : Act) (w_1 : World), Code.wp _ _ _ a w_1 → _) _ _ ?_
  go_upto_region 2 with (fail)
  replace HS : Hid (Held v1 [(w.heap.size, tqT (x0, x1, x2), 25)]) := Lib.hid (HG.out.h.pick [0] _ rfl)
  refine wp_region_line (S := fun w' => Held w' [(w.heap.size, tqT (x0, x1, x2), 25)]) [(true, 0), (true, 1)] (by kernel_rfl) (by kernel_rfl) HS.out ?_
  refine sq_ps [(0, .int .i64 zz1), (1, .bool (decide (zz1 < 0)))] (by kernel_rfl) ?_
  refine sq_fin { tmps := List.toArray ([.agg (tqT (x0, x1, x2)), .int .i64 zz1, .pointer (some ⟨w.heap.size, 0, none⟩), undef, .int .i64 0, .pointer (some ⟨w.heap.size, 1, none⟩), .agg (aggT x1), .int .i64 l, .int .i64 zz1, .int .i64 zz1, .bool (decide (zz1 < 0)), undef, undef, undef, undef, undef, undef, undef]), defers := [] } (by kernel_rfl) ?_
  refine (by assumption : ∀ (a : Act) (w_1 : World), Code.wp _ _ _ a w_1 → _) _ _ ?_
  by_cases hc2 : (decide (zz1 < 0)) = true
  · rw [hc2]
    go_upto_region 3 with (fail)
    replace HS : Hid (Held v1 [(w.heap.size, tqT (x0, x1, x2), 25)]) := Lib.hid (HG.out.h.pick [0] _ rfl)
    refine wp_region_line (S := fun w' => Held w' [(w.heap.size, tqT (x0, x1, x2), 25)]) [(true, 0)] (by kernel_rfl) (by kernel_rfl) HS.out ?_
    refine sq_ps [(0, .int .i64 (-1))] (by kernel_rfl) ?_
    refine sq_done ?_
    refine (by assumption : ∀ (a : Act) (w_1 : World), Code.wp _ Code.ret _ a w_1 → _) _ _ ?_
    refine wp_ret ?_
    try refine wk_block ?_
    try refine wk_then ?_
    exact wk_ret (v := .int .i64 (-1)) Try.results7 (by kernel_rfl) (by kernel_rfl) ⟨⟨_, rfl⟩, HG.out.b⟩
  · replace hc2 := eq_false_of_ne_true hc2
    rw [hc2]
    go_upto_region 4 with (fail)
    replace HS : Hid (Held v1 [(w.heap.size, tqT (x0, x1, x2), 25)]) := Lib.hid (HG.out.h.pick [0] _ rfl)
    refine wp_region_line (S := fun w' => Held w' [(w.heap.size, tqT (x0, x1, x2), 25)]) [(true, 0), (true, 1), (true, 2), (false, 3), (true, 4)] (by kernel_rfl) (by kernel_rfl) HS.out ?_
    refine sq_ps [(0, .pointer (some ⟨w.heap.size, 3, none⟩))] (by kernel_rfl) ?_
    refine sq_ld (some 12) (ld_mid' (D := aggT x2) (k := 3) Try.underlying23 rfl Try.info_lpr (.head _) rfl) (by kernel_rfl) ?_
    refine sq_ps [(2, .int .i64 zz1)] (by kernel_rfl) ?_
    refine sq_c (some 14) Try.func18 (sz_laws_Pair x2 ( zz1) _) (by kernel_rfl) ?_
    rintro e v3 ⟨⟨zz3, rfl⟩, bw⟩
    replace HG := Lib.hid (HG.out.on bw)
    clear bw
    refine ⟨_, rfl, (HG.out.h.pick [0] _ rfl), ?_⟩
    refine sq_ps [(4, .int .i64 zz3)] (by kernel_rfl) ?_
    refine sq_fin { tmps := List.toArray ([.agg (tqT (x0, x1, x2)), .int .i64 zz3, .pointer (some ⟨w.heap.size, 0, none⟩), undef, .int .i64 0, .pointer (some ⟨w.heap.size, 1, none⟩), .agg (aggT x1), .int .i64 l, .int .i64 zz1, .int .i64 zz1, .bool false, .pointer (some ⟨w.heap.size, 3, none⟩), .agg (aggT x2), .int .i64 zz1, .int .i64 zz3, undef, undef, undef]), defers := [] } (by kernel_rfl) ?_
    refine (by assumption : ∀ (a : Act) (w_1 : World), Code.wp _ _ _ a w_1 → _) _ _ ?_
    go_upto_region 5 with (fail)
    replace HS : Hid (Held v3 [(w.heap.size, tqT (x0, x1, x2), 25)]) := Lib.hid (HG.out.h.pick [0] _ rfl)
    refine wp_region_line (S := fun w' => Held w' [(w.heap.size, tqT (x0, x1, x2), 25)]) [(true, 0), (true, 1)] (by kernel_rfl) (by kernel_rfl) HS.out ?_
    refine sq_ps [(0, .int .i64 zz3), (1, .bool (decide (zz3 < 0)))] (by kernel_rfl) ?_
    refine sq_fin { tmps := List.toArray ([.agg (tqT (x0, x1, x2)), .int .i64 zz3, .pointer (some ⟨w.heap.size, 0, none⟩), undef, .int .i64 0, .pointer (some ⟨w.heap.size, 1, none⟩), .agg (aggT x1), .int .i64 l, .int .i64 zz1, .int .i64 zz1, .bool false, .pointer (some ⟨w.heap.size, 3, none⟩), .agg (aggT x2), .int .i64 zz1, .int .i64 zz3, .int .i64 zz3, .bool (decide (zz3 < 0)), undef]), defers := [] } (by kernel_rfl) ?_
    refine (by assumption : ∀ (a : Act) (w_1 : World), Code.wp _ _ _ a w_1 → _) _ _ ?_
    by_cases hc4 : (decide (zz3 < 0)) = true
    · rw [hc4]
      go_upto_region 6 with (fail)
      replace HS : Hid (Held v3 [(w.heap.size, tqT (x0, x1, x2), 25)]) := Lib.hid (HG.out.h.pick [0] _ rfl)
      refine wp_region_line (S := fun w' => Held w' [(w.heap.size, tqT (x0, x1, x2), 25)]) [(true, 0)] (by kernel_rfl) (by kernel_rfl) HS.out ?_
      refine sq_ps [(0, .int .i64 (-1))] (by kernel_rfl) ?_
      refine sq_done ?_
      refine (by assumption : ∀ (a : Act) (w_1 : World), Code.wp _ Code.ret _ a w_1 → _) _ _ ?_
      refine wp_ret ?_
      try refine wk_block ?_
      try refine wk_then ?_
      exact wk_ret (v := .int .i64 (-1)) Try.results7 (by kernel_rfl) (by kernel_rfl) ⟨⟨_, rfl⟩, HG.out.b⟩
    · replace hc4 := eq_false_of_ne_true hc4
      rw [hc4]
      go_upto_region 7 with (fail)
      replace HS : Hid (Held v3 [(w.heap.size, tqT (x0, x1, x2), 25)]) := Lib.hid (HG.out.h.pick [0] _ rfl)
      refine wp_region_line (S := fun w' => Held w' [(w.heap.size, tqT (x0, x1, x2), 25)]) [(true, 0), (true, 1)] (by kernel_rfl) (by kernel_rfl) HS.out ?_
      refine sq_ps [(0, .int .i64 zz3), (1, .int .i64 zz3)] (by kernel_rfl) ?_
      refine sq_done ?_
      refine (by assumption : ∀ (a : Act) (w_1 : World), Code.wp _ Code.ret _ a w_1 → _) _ _ ?_
      refine wp_ret ?_
      try refine wk_block ?_
      try refine wk_then ?_
      exact wk_ret (v := .int .i64 zz3) Try.results7 (by kernel_rfl) (by kernel_rfl) ⟨⟨_, rfl⟩, HG.out.b⟩
set_option maxRecDepth 8000 in
set_option maxHeartbeats 4000000 in
theorem to_laws_PairPoint (x : Tq) (w : World) : Calls Try.prog 9 #[.agg (tqT x)] w fun e w' => e = .returned (.agg (tqT x)) ∧ Below w.heap.size w w' := by
  obtain ⟨x0, x1, x2⟩ := x
  have HG := Lib.hid (blks2 w (tqT (x0, x1, x2)) (#[.bool false, .string ⟨#[]⟩, .string ⟨#[]⟩, .string ⟨#[]⟩, .string ⟨#[]⟩]) 25 30)
  go_enter Try.func9, Try.ntmps9
  go_upto_region 1 with (fail)
  generalize (w.alloc _).alloc _ = w0 at *
  replace HG : Hid (Blks w w0 [(w.heap.size + 1, tqT (false, noP, noP), 30), (w.heap.size, tqT (x0, x1, x2), 25)]) := HG
  have HS := Lib.hid HG.out.h
  replace HS : Hid (Held w0 [((w.heap.size + 1), tqT (false, noP, noP), 30), (w.heap.size, tqT (x0, x1, x2), 25)]) := Lib.hid (HG.out.h.pick [0, 1] _ rfl)
  refine wp_region_line (S := fun w' => Held w' [((w.heap.size + 1), tqT (false, noP, noP), 30), (w.heap.size, tqT (x0, x1, x2), 25)]) [(false, 0)] (by kernel_rfl) (by kernel_rfl) HS.out ?_
  replace HG := Lib.hid (HG.out.new (tqT (false, noP, noP)) 30)
  refine sq_alloc (some 3) 30 (tqT (false, noP, noP)) (by kernel_rfl) (by kernel_rfl) (by kernel_rfl) (by kernel_rfl) (zero_pq _) (HG.out.h.pick [1, 2] _ rfl) ?_
  generalize w0.alloc _ = u1 at *
  generalize w0.heap.size = g1 at *
  refine sq_fin { tmps := List.toArray ([.agg (tqT (x0, x1, x2)), .pointer (some ⟨w.heap.size, 0, none⟩), .pointer (some ⟨(w.heap.size + 1), 0, none⟩), .pointer (some ⟨g1, 0, none⟩), undef, undef, undef, undef, undef, undef, undef, undef, undef, undef, undef, undef]), defers := [] } (by kernel_rfl) ?_
  refine (by assumption : ∀ (a : Act) (w_1 : World), Code.wp _ _ _ a w_1 → _) _ _ ?_
  go_upto_region 2 with (fail)
  replace HS : Hid (Held u1 [((w.heap.size + 1), tqT (false, noP, noP), 30), (w.heap.size, tqT (x0, x1, x2), 25)]) := Lib.hid (HG.out.h.pick [1, 2] _ rfl)
  refine wp_region_line (S := fun w' => Held w' [((w.heap.size + 1), tqT (false, noP, noP), 30), (w.heap.size, tqT (x0, x1, x2), 25)]) [(true, 0), (true, 1), (true, 2), (false, 3)] (by kernel_rfl) (by kernel_rfl) HS.out ?_
  refine sq_ps [(0, .pointer (some ⟨w.heap.size, 0, none⟩))] (by kernel_rfl) ?_
  refine sq_ld (some 5) (wk_b (.tail _ (.head _)) (k := 0) rfl) (by kernel_rfl) ?_
  refine sq_ps [(2, .pointer (some ⟨g1, 0, none⟩))] (by kernel_rfl) ?_
  have HN := Lib.hid (HG.out.at 0 rfl)
  replace HG : Hid (Blks w (u1.setRow g1 (tqT (x0, noP, noP))) [(g1, tqT (x0, noP, noP), 30), ((w.heap.size + 1), tqT (false, noP, noP), 30), (w.heap.size, tqT (x0, x1, x2), 25)]) := Lib.hid (HG.out.put 0 rfl (tqT (x0, noP, noP)))
  refine sq_stm 4 g1 0 (.bool x0) (tqT (x0, noP, noP)) HN.out Try.wkB (by kernel_rfl) (by kernel_rfl) rfl (HG.out.h.pick [1, 2] _ rfl) (by kernel_rfl) ?_
  clear HN
  generalize World.setRow _ g1 _ = t2 at *
  refine sq_fin { tmps := List.toArray ([.agg (tqT (x0, x1, x2)), .pointer (some ⟨w.heap.size, 0, none⟩), .pointer (some ⟨(w.heap.size + 1), 0, none⟩), .pointer (some ⟨g1, 0, none⟩), .pointer (some ⟨w.heap.size, 0, none⟩), .bool x0, .pointer (some ⟨g1, 0, none⟩), undef, undef, undef, undef, undef, undef, undef, undef, undef]), defers := [] } (by kernel_rfl) ?_
  refine (by assumption : ∀ (a : Act) (w_1 : World), Code.wp _ _ _ a w_1 → _) _ _ ?_
  go_upto_region 3 with (fail)
  replace HS : Hid (Held t2 [((w.heap.size + 1), tqT (false, noP, noP), 30), (w.heap.size, tqT (x0, x1, x2), 25)]) := Lib.hid (HG.out.h.pick [1, 2] _ rfl)
  refine wp_region_line (S := fun w' => Held w' [((w.heap.size + 1), tqT (false, noP, noP), 30), (w.heap.size, tqT (x0, x1, x2), 25)]) [(true, 0), (true, 1), (false, 2), (true, 3), (false, 4)] (by kernel_rfl) (by kernel_rfl) HS.out ?_
  refine sq_ps [(0, .pointer (some ⟨w.heap.size, 1, none⟩))] (by kernel_rfl) ?_
  refine sq_ld (some 8) (ld_mid' (D := aggT x1) (k := 1) Try.underlying23 rfl Try.info_lpr (.tail _ (.head _)) rfl) (by kernel_rfl) ?_
  refine sq_c (some 9) Try.func25 (to_laws_Pair x1 _) (by kernel_rfl) ?_
  rintro e v3 ⟨rfl, bw⟩
  replace HG := Lib.hid (HG.out.on bw)
  clear bw
  refine ⟨_, rfl, (HG.out.h.pick [1, 2] _ rfl), ?_⟩
  refine sq_ps [(3, .pointer (some ⟨g1, 1, none⟩))] (by kernel_rfl) ?_
  have HN := Lib.hid (HG.out.at 0 rfl)
  replace HG : Hid (Blks w (v3.setRow g1 (tqT (x0, x1, noP))) [(g1, tqT (x0, x1, noP), 30), ((w.heap.size + 1), tqT (false, noP, noP), 30), (w.heap.size, tqT (x0, x1, x2), 25)]) := Lib.hid (HG.out.put 0 rfl (tqT (x0, x1, noP)))
  refine sq_stm 28 g1 1 (.agg (aggT x1)) (tqT (x0, x1, noP)) HN.out Try.infoP (by kernel_rfl) (by kernel_rfl) rfl (HG.out.h.pick [1, 2] _ rfl) (by kernel_rfl) ?_
  clear HN
  generalize World.setRow _ g1 _ = t4 at *
  refine sq_fin { tmps := List.toArray ([.agg (tqT (x0, x1, x2)), .pointer (some ⟨w.heap.size, 0, none⟩), .pointer (some ⟨(w.heap.size + 1), 0, none⟩), .pointer (some ⟨g1, 0, none⟩), .pointer (some ⟨w.heap.size, 0, none⟩), .bool x0, .pointer (some ⟨g1, 0, none⟩), .pointer (some ⟨w.heap.size, 1, none⟩), .agg (aggT x1), .agg (aggT x1), .pointer (some ⟨g1, 1, none⟩), undef, undef, undef, undef, undef]), defers := [] } (by kernel_rfl) ?_
  refine (by assumption : ∀ (a : Act) (w_1 : World), Code.wp _ _ _ a w_1 → _) _ _ ?_
  go_upto_region 4 with (fail)
  replace HS : Hid (Held t4 [((w.heap.size + 1), tqT (false, noP, noP), 30), (w.heap.size, tqT (x0, x1, x2), 25)]) := Lib.hid (HG.out.h.pick [1, 2] _ rfl)
  refine wp_region_line (S := fun w' => Held w' [((w.heap.size + 1), tqT (false, noP, noP), 30), (w.heap.size, tqT (x0, x1, x2), 25)]) [(true, 0), (true, 1), (false, 2), (true, 3), (false, 4)] (by kernel_rfl) (by kernel_rfl) HS.out ?_
  refine sq_ps [(0, .pointer (some ⟨w.heap.size, 3, none⟩))] (by kernel_rfl) ?_
  refine sq_ld (some 12) (ld_mid' (D := aggT x2) (k := 3) Try.underlying23 rfl Try.info_lpr (.tail _ (.head _)) rfl) (by kernel_rfl) ?_
  refine sq_c (some 13) Try.func25 (to_laws_Pair x2 _) (by kernel_rfl) ?_
  rintro e v5 ⟨rfl, bw⟩
  replace HG := Lib.hid (HG.out.on bw)
  clear bw
  refine ⟨_, rfl, (HG.out.h.pick [1, 2] _ rfl), ?_⟩
  refine sq_ps [(3, .pointer (some ⟨g1, 3, none⟩))] (by kernel_rfl) ?_
  have HN := Lib.hid (HG.out.at 0 rfl)
  replace HG : Hid (Blks w (v5.setRow g1 (tqT (x0, x1, x2))) [(g1, tqT (x0, x1, x2), 30), ((w.heap.size + 1), tqT (false, noP, noP), 30), (w.heap.size, tqT (x0, x1, x2), 25)]) := Lib.hid (HG.out.put 0 rfl (tqT (x0, x1, x2)))
  refine sq_stm 28 g1 3 (.agg (aggT x2)) (tqT (x0, x1, x2)) HN.out Try.infoP (by kernel_rfl) (by kernel_rfl) rfl (HG.out.h.pick [1, 2] _ rfl) (by kernel_rfl) ?_
  clear HN
  generalize World.setRow _ g1 _ = t6 at *
  refine sq_fin { tmps := List.toArray ([.agg (tqT (x0, x1, x2)), .pointer (some ⟨w.heap.size, 0, none⟩), .pointer (some ⟨(w.heap.size + 1), 0, none⟩), .pointer (some ⟨g1, 0, none⟩), .pointer (some ⟨w.heap.size, 0, none⟩), .bool x0, .pointer (some ⟨g1, 0, none⟩), .pointer (some ⟨w.heap.size, 1, none⟩), .agg (aggT x1), .agg (aggT x1), .pointer (some ⟨g1, 1, none⟩), .pointer (some ⟨w.heap.size, 3, none⟩), .agg (aggT x2), .agg (aggT x2), .pointer (some ⟨g1, 3, none⟩), undef]), defers := [] } (by kernel_rfl) ?_
  refine (by assumption : ∀ (a : Act) (w_1 : World), Code.wp _ _ _ a w_1 → _) _ _ ?_
  go_upto_region 5 with (fail)
  replace HS : Hid (Held t6 [(g1, tqT (x0, x1, x2), 30), (w.heap.size, tqT (x0, x1, x2), 25)]) := Lib.hid (HG.out.h.pick [0, 2] _ rfl)
  refine wp_region_line (S := fun w' => Held w' [(g1, tqT (x0, x1, x2), 30), (w.heap.size, tqT (x0, x1, x2), 25)]) [(true, 0), (false, 1)] (by kernel_rfl) (by kernel_rfl) HS.out ?_
  refine sq_ld (some 15) (ld_mid' (D := tqT (x0, x1, x2)) (k := 0) Try.underlying30 rfl Try.infoPq (.head _) rfl) (by kernel_rfl) ?_
  have HN := Lib.hid (HG.out.at 1 rfl)
  replace HG : Hid (Blks w (t6.setRow (w.heap.size + 1) (tqT (x0, x1, x2))) [(g1, tqT (x0, x1, x2), 30), ((w.heap.size + 1), tqT (x0, x1, x2), 30), (w.heap.size, tqT (x0, x1, x2), 25)]) := Lib.hid (HG.out.put 1 rfl (tqT (x0, x1, x2)))
  refine sq_st 30 (w.heap.size + 1) (tqT (x0, x1, x2)) HN.out Try.infoPq rfl (by kernel_rfl) (HG.out.h.pick [0, 2] _ rfl) (by kernel_rfl) ?_
  clear HN
  generalize World.setRow _ (w.heap.size + 1) _ = t7 at *
  refine sq_done ?_
  refine (by assumption : ∀ (a : Act) (w_1 : World), Code.wp _ Code.ret _ a w_1 → _) _ _ ?_
  refine wp_ret ?_
  try refine wk_block ?_
  try refine wk_then ?_
  exact bodyPost_ret (results_cell_row Try.results9 _ _ (w.heap.size + 1) _ _ _ _ (by kernel_rfl) (HG.out.at 1 rfl) Try.underlying30 rfl Try.infoPq) (by kernel_rfl) ⟨rfl, HG.out.b⟩
set_option maxRecDepth 8000 in
set_option maxHeartbeats 4000000 in
theorem same_impl_PairPoint (x : Tq) (w : World) : Calls Try.prog 13 #[.agg (tqT x), .agg (tqT x)] w fun e w' => e = .returned (.bool true) ∧ Below w.heap.size w w' := by
  obtain ⟨x0, x1, x2⟩ := x
  have HG := Lib.hid (blks2 w (tqT (x0, x1, x2)) (tqT (x0, x1, x2)) 30 30)
  go_enter Try.func13, Try.ntmps13
  go_upto_region 1 with (fail)
  generalize (w.alloc _).alloc _ = w0 at *
  have HS := Lib.hid HG.out.h
  replace HS : Hid (Held w0 [((w.heap.size + 1), tqT (x0, x1, x2), 30), (w.heap.size, tqT (x0, x1, x2), 30)]) := Lib.hid (HG.out.h.pick [0, 1] _ rfl)
  refine wp_region_line (S := fun w' => Held w' [((w.heap.size + 1), tqT (x0, x1, x2), 30), (w.heap.size, tqT (x0, x1, x2), 30)]) [(true, 0), (true, 1), (true, 2), (true, 3), (true, 4)] (by kernel_rfl) (by kernel_rfl) HS.out ?_
  refine sq_ps [(0, .pointer (some ⟨w.heap.size, 0, none⟩))] (by kernel_rfl) ?_
  refine sq_ld (some 6) (wk_b (.tail _ (.head _)) (k := 0) rfl) (by kernel_rfl) ?_
  refine sq_ps [(2, .pointer (some ⟨(w.heap.size + 1), 0, none⟩))] (by kernel_rfl) ?_
  refine sq_ld (some 8) (wk_b (.head _) (k := 0) rfl) (by kernel_rfl) ?_
  refine sq_v (some 9) (.bool (x0 != x0)) (.bool false) (congrArg Value.bool (bne_self_eq_false _)) (by kernel_rfl) (by kernel_rfl) (fun _ => (by kernel_rfl)) ?_
  refine sq_fin { tmps := List.toArray ([.agg (tqT (x0, x1, x2)), .agg (tqT (x0, x1, x2)), .pointer (some ⟨w.heap.size, 0, none⟩), .pointer (some ⟨(w.heap.size + 1), 0, none⟩), .bool false, .pointer (some ⟨w.heap.size, 0, none⟩), .bool x0, .pointer (some ⟨(w.heap.size + 1), 0, none⟩), .bool x0, .bool false, undef, undef, undef, undef, undef, undef, undef, undef, undef, undef, undef, undef]), defers := [] } (by kernel_rfl) ?_
  refine (by assumption : ∀ (a : Act) (w_1 : World), Code.wp _ _ _ a w_1 → _) _ _ ?_
  go_upto_region 3 with (fail)
  replace HS : Hid (Held w0 [((w.heap.size + 1), tqT (x0, x1, x2), 30), (w.heap.size, tqT (x0, x1, x2), 30)]) := Lib.hid (HG.out.h.pick [0, 1] _ rfl)
  refine wp_region_line (S := fun w' => Held w' [((w.heap.size + 1), tqT (x0, x1, x2), 30), (w.heap.size, tqT (x0, x1, x2), 30)]) [(true, 0), (true, 1), (true, 2), (true, 3), (false, 4), (true, 5)] (by kernel_rfl) (by kernel_rfl) HS.out ?_
  refine sq_ps [(0, .pointer (some ⟨w.heap.size, 1, none⟩))] (by kernel_rfl) ?_
  refine sq_ld (some 11) (ld_mid' (D := aggT x1) (k := 1) Try.underlying28 rfl Try.infoP (.tail _ (.head _)) rfl) (by kernel_rfl) ?_
  refine sq_ps [(2, .pointer (some ⟨(w.heap.size + 1), 1, none⟩))] (by kernel_rfl) ?_
  refine sq_ld (some 13) (ld_mid' (D := aggT x1) (k := 1) Try.underlying28 rfl Try.infoP (.head _) rfl) (by kernel_rfl) ?_
  refine sq_c (some 14) Try.func30 (same_impl_Pair x1 _) (by kernel_rfl) ?_
  rintro e v1 ⟨rfl, bw⟩
  replace HG := Lib.hid (HG.out.on bw)
  clear bw
  refine ⟨_, rfl, (HG.out.h.pick [0, 1] _ rfl), ?_⟩
  refine sq_ps [(5, .bool false)] (by kernel_rfl) ?_
  refine sq_fin { tmps := List.toArray ([.agg (tqT (x0, x1, x2)), .agg (tqT (x0, x1, x2)), .pointer (some ⟨w.heap.size, 0, none⟩), .pointer (some ⟨(w.heap.size + 1), 0, none⟩), .bool false, .pointer (some ⟨w.heap.size, 0, none⟩), .bool x0, .pointer (some ⟨(w.heap.size + 1), 0, none⟩), .bool x0, .bool false, .pointer (some ⟨w.heap.size, 1, none⟩), .agg (aggT x1), .pointer (some ⟨(w.heap.size + 1), 1, none⟩), .agg (aggT x1), .bool true, .bool false, undef, undef, undef, undef, undef, undef]), defers := [] } (by kernel_rfl) ?_
  refine (by assumption : ∀ (a : Act) (w_1 : World), Code.wp _ _ _ a w_1 → _) _ _ ?_
  go_upto_region 5 with (fail)
  replace HS : Hid (Held v1 [((w.heap.size + 1), tqT (x0, x1, x2), 30), (w.heap.size, tqT (x0, x1, x2), 30)]) := Lib.hid (HG.out.h.pick [0, 1] _ rfl)
  refine wp_region_line (S := fun w' => Held w' [((w.heap.size + 1), tqT (x0, x1, x2), 30), (w.heap.size, tqT (x0, x1, x2), 30)]) [(true, 0), (true, 1), (true, 2), (true, 3), (false, 4), (true, 5)] (by kernel_rfl) (by kernel_rfl) HS.out ?_
  refine sq_ps [(0, .pointer (some ⟨w.heap.size, 3, none⟩))] (by kernel_rfl) ?_
  refine sq_ld (some 17) (ld_mid' (D := aggT x2) (k := 3) Try.underlying28 rfl Try.infoP (.tail _ (.head _)) rfl) (by kernel_rfl) ?_
  refine sq_ps [(2, .pointer (some ⟨(w.heap.size + 1), 3, none⟩))] (by kernel_rfl) ?_
  refine sq_ld (some 19) (ld_mid' (D := aggT x2) (k := 3) Try.underlying28 rfl Try.infoP (.head _) rfl) (by kernel_rfl) ?_
  refine sq_c (some 20) Try.func30 (same_impl_Pair x2 _) (by kernel_rfl) ?_
  rintro e v2 ⟨rfl, bw⟩
  replace HG := Lib.hid (HG.out.on bw)
  clear bw
  refine ⟨_, rfl, (HG.out.h.pick [0, 1] _ rfl), ?_⟩
  refine sq_ps [(5, .bool false)] (by kernel_rfl) ?_
  refine sq_fin { tmps := List.toArray ([.agg (tqT (x0, x1, x2)), .agg (tqT (x0, x1, x2)), .pointer (some ⟨w.heap.size, 0, none⟩), .pointer (some ⟨(w.heap.size + 1), 0, none⟩), .bool false, .pointer (some ⟨w.heap.size, 0, none⟩), .bool x0, .pointer (some ⟨(w.heap.size + 1), 0, none⟩), .bool x0, .bool false, .pointer (some ⟨w.heap.size, 1, none⟩), .agg (aggT x1), .pointer (some ⟨(w.heap.size + 1), 1, none⟩), .agg (aggT x1), .bool true, .bool false, .pointer (some ⟨w.heap.size, 3, none⟩), .agg (aggT x2), .pointer (some ⟨(w.heap.size + 1), 3, none⟩), .agg (aggT x2), .bool true, .bool false]), defers := [] } (by kernel_rfl) ?_
  refine (by assumption : ∀ (a : Act) (w_1 : World), Code.wp _ _ _ a w_1 → _) _ _ ?_
  go_upto_region 7 with (fail)
  replace HS : Hid (Held v2 [((w.heap.size + 1), tqT (x0, x1, x2), 30), (w.heap.size, tqT (x0, x1, x2), 30)]) := Lib.hid (HG.out.h.pick [0, 1] _ rfl)
  refine wp_region_line (S := fun w' => Held w' [((w.heap.size + 1), tqT (x0, x1, x2), 30), (w.heap.size, tqT (x0, x1, x2), 30)]) [(true, 0)] (by kernel_rfl) (by kernel_rfl) HS.out ?_
  refine sq_ps [(0, .bool true)] (by kernel_rfl) ?_
  refine sq_done ?_
  refine (by assumption : ∀ (a : Act) (w_1 : World), Code.wp _ Code.ret _ a w_1 → _) _ _ ?_
  refine wp_ret ?_
  try refine wk_block ?_
  try refine wk_then ?_
  exact wk_ret (v := .bool true) Try.results13 (by kernel_rfl) (by kernel_rfl) ⟨rfl, HG.out.b⟩
end Go.Proofs.Ytdajgcgliidjbaa

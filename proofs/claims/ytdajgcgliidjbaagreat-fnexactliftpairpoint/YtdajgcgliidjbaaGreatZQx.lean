import Derived.Test.YtdajgcgliidjbaaGreatZQo
set_option maxRecDepth 8000
set_option maxHeartbeats 4000000
namespace Go.Proofs.YtdajgcgliidjbaaGreat
open Go.RowKit
theorem sz_laws_Pair (x : Pt) (l : Int) (w : World) : Calls Tryz.prog 22 #[.agg (aggT x), .int .i64 l] w fun e w' => (∃ z, e = .returned (.int .i64 z)) ∧ Below w.heap.size w w' := by
 obtain ⟨x0, x1⟩ := x
 have HG := Lib.hid (blks1 w (aggT (x0, x1)) 42)
 go_enter Tryz.func22, Tryz.ntmps22
 go_upto_region 1 with (fail)
 generalize w.alloc _ = w0 at *
 have HS := Lib.hid HG.out.h
 replace HS : Hid (Held w0 [(w.heap.size, aggT (x0, x1), 42)]) := Lib.hid (HG.out.h.pick [0] _ rfl)
 refine wp_region_linek (S := fun w' => Held w' [(w.heap.size, aggT (x0, x1), 42)]) [(true, 0), (true, 1), (true, 2), (true, 3), (true, 4), (true, 5)] HS.out ?_
 refine sq_psk [(0, .int .i64 l), (1, .pointer (some ⟨w.heap.size, 0, none⟩))] ?_
 refine sq_ldk (some 7) (wk_s (.head _) (k := 0) rfl) ?_
 refine sq_psk [(3, .int .i64 (x0.size : Int))] ?_
 obtain ⟨z1, hz1⟩ : ∃ z, IntKind.i64.wrap (l - (x0.size : Int)) = z := ⟨_, rfl⟩
 refine sq_v (some 9) (.int .i64 (IntKind.i64.wrap (l - (x0.size : Int)))) (.int .i64 z1) (congrArg (Value.int .i64) hz1) (by kernel_rfl) (by kernel_rfl) (fun _ => (by kernel_rfl)) ?_
 refine sq_psk [(5, .int .i64 z1)] ?_
 refine sq_fink { tmps := List.toArray ([.agg (aggT (x0, x1)), .int .i64 z1, .pointer (some ⟨w.heap.size, 0, none⟩), undef, .int .i64 0, .int .i64 l, .pointer (some ⟨w.heap.size, 0, none⟩), .string x0, .int .i64 (x0.size : Int), .int .i64 z1, undef, undef, undef, undef, undef, undef, undef, undef, undef, undef]), defers := [] } ?_
 refine ‹∀ a w, Code.wp _ _ _ a w → _› _ _ ?_
 go_upto_region 2 with (fail)
 replace HS : Hid (Held w0 [(w.heap.size, aggT (x0, x1), 42)]) := Lib.hid (HG.out.h.pick [0] _ rfl)
 refine wp_region_linek (S := fun w' => Held w' [(w.heap.size, aggT (x0, x1), 42)]) [(true, 0), (true, 1)] HS.out ?_
 refine sq_psk [(0, .int .i64 z1), (1, .bool (decide (z1 < 0)))] ?_
 refine sq_fink { tmps := List.toArray ([.agg (aggT (x0, x1)), .int .i64 z1, .pointer (some ⟨w.heap.size, 0, none⟩), undef, .int .i64 0, .int .i64 l, .pointer (some ⟨w.heap.size, 0, none⟩), .string x0, .int .i64 (x0.size : Int), .int .i64 z1, .int .i64 z1, .bool (decide (z1 < 0)), undef, undef, undef, undef, undef, undef, undef, undef]), defers := [] } ?_
 refine ‹∀ a w, Code.wp _ _ _ a w → _› _ _ ?_
 by_cases hc2 : (decide (z1 < 0)) = true
 ·rw [hc2]
  go_upto_region 3 with (fail)
  replace HS : Hid (Held w0 [(w.heap.size, aggT (x0, x1), 42)]) := Lib.hid (HG.out.h.pick [0] _ rfl)
  refine wp_region_linek (S := fun w' => Held w' [(w.heap.size, aggT (x0, x1), 42)]) [(true, 0)] HS.out ?_
  refine sq_psk [(0, .int .i64 (-1))] ?_
  refine sq_done ?_
  refine ‹∀ a w, Code.wp _ Code.ret _ a w → _› _ _ ?_
  refine wp_ret ?_
  try refine wk_block ?_
  try refine wk_then ?_
  exact wk_ret (v := .int .i64 (-1)) Tryz.results22 (by kernel_rfl) (by kernel_rfl) ⟨⟨_, rfl⟩, HG.out.b⟩
 ·replace hc2 := eq_false_of_ne_true hc2
  rw [hc2]
  go_upto_region 4 with (fail)
  replace HS : Hid (Held w0 [(w.heap.size, aggT (x0, x1), 42)]) := Lib.hid (HG.out.h.pick [0] _ rfl)
  refine wp_region_linek (S := fun w' => Held w' [(w.heap.size, aggT (x0, x1), 42)]) [(true, 0), (true, 1), (true, 2), (true, 3), (true, 4), (true, 5)] HS.out ?_
  refine sq_psk [(0, .int .i64 z1), (1, .pointer (some ⟨w.heap.size, 1, none⟩))] ?_
  refine sq_ldk (some 14) (wk_s (.head _) (k := 1) rfl) ?_
  refine sq_psk [(3, .int .i64 (x1.size : Int))] ?_
  obtain ⟨z3, hz3⟩ : ∃ z, IntKind.i64.wrap (z1 - (x1.size : Int)) = z := ⟨_, rfl⟩
  refine sq_v (some 16) (.int .i64 (IntKind.i64.wrap (z1 - (x1.size : Int)))) (.int .i64 z3) (congrArg (Value.int .i64) hz3) (by kernel_rfl) (by kernel_rfl) (fun _ => (by kernel_rfl)) ?_
  refine sq_psk [(5, .int .i64 z3)] ?_
  refine sq_fink { tmps := List.toArray ([.agg (aggT (x0, x1)), .int .i64 z3, .pointer (some ⟨w.heap.size, 0, none⟩), undef, .int .i64 0, .int .i64 l, .pointer (some ⟨w.heap.size, 0, none⟩), .string x0, .int .i64 (x0.size : Int), .int .i64 z1, .int .i64 z1, .bool false, .int .i64 z1, .pointer (some ⟨w.heap.size, 1, none⟩), .string x1, .int .i64 (x1.size : Int), .int .i64 z3, undef, undef, undef]), defers := [] } ?_
  refine ‹∀ a w, Code.wp _ _ _ a w → _› _ _ ?_
  go_upto_region 5 with (fail)
  replace HS : Hid (Held w0 [(w.heap.size, aggT (x0, x1), 42)]) := Lib.hid (HG.out.h.pick [0] _ rfl)
  refine wp_region_linek (S := fun w' => Held w' [(w.heap.size, aggT (x0, x1), 42)]) [(true, 0), (true, 1)] HS.out ?_
  refine sq_psk [(0, .int .i64 z3), (1, .bool (decide (z3 < 0)))] ?_
  refine sq_fink { tmps := List.toArray ([.agg (aggT (x0, x1)), .int .i64 z3, .pointer (some ⟨w.heap.size, 0, none⟩), undef, .int .i64 0, .int .i64 l, .pointer (some ⟨w.heap.size, 0, none⟩), .string x0, .int .i64 (x0.size : Int), .int .i64 z1, .int .i64 z1, .bool false, .int .i64 z1, .pointer (some ⟨w.heap.size, 1, none⟩), .string x1, .int .i64 (x1.size : Int), .int .i64 z3, .int .i64 z3, .bool (decide (z3 < 0)), undef]), defers := [] } ?_
  refine ‹∀ a w, Code.wp _ _ _ a w → _› _ _ ?_
  by_cases hc4 : (decide (z3 < 0)) = true
  ·rw [hc4]
   go_upto_region 6 with (fail)
   replace HS : Hid (Held w0 [(w.heap.size, aggT (x0, x1), 42)]) := Lib.hid (HG.out.h.pick [0] _ rfl)
   refine wp_region_linek (S := fun w' => Held w' [(w.heap.size, aggT (x0, x1), 42)]) [(true, 0)] HS.out ?_
   refine sq_psk [(0, .int .i64 (-1))] ?_
   refine sq_done ?_
   refine ‹∀ a w, Code.wp _ Code.ret _ a w → _› _ _ ?_
   refine wp_ret ?_
   try refine wk_block ?_
   try refine wk_then ?_
   exact wk_ret (v := .int .i64 (-1)) Tryz.results22 (by kernel_rfl) (by kernel_rfl) ⟨⟨_, rfl⟩, HG.out.b⟩
  ·replace hc4 := eq_false_of_ne_true hc4
   rw [hc4]
   go_upto_region 7 with (fail)
   replace HS : Hid (Held w0 [(w.heap.size, aggT (x0, x1), 42)]) := Lib.hid (HG.out.h.pick [0] _ rfl)
   refine wp_region_linek (S := fun w' => Held w' [(w.heap.size, aggT (x0, x1), 42)]) [(true, 0), (true, 1)] HS.out ?_
   refine sq_psk [(0, .int .i64 z3), (1, .int .i64 z3)] ?_
   refine sq_done ?_
   refine ‹∀ a w, Code.wp _ Code.ret _ a w → _› _ _ ?_
   refine wp_ret ?_
   try refine wk_block ?_
   try refine wk_then ?_
   exact wk_ret (v := .int .i64 z3) Tryz.results22 (by kernel_rfl) (by kernel_rfl) ⟨⟨_, rfl⟩, HG.out.b⟩
theorem to_laws_Pair (x : Pt) (w : World) : Calls Tryz.prog 24 #[.agg (aggT x)] w fun e w' => e = .returned (.agg (aggT x)) ∧ Below w.heap.size w w' := by
 obtain ⟨x0, x1⟩ := x
 have HG := Lib.hid (blks2 w (aggT (x0, x1)) (#[.string ⟨#[]⟩, .string ⟨#[]⟩]) 42 25)
 go_enter Tryz.func24, Tryz.ntmps24
 go_upto_region 1 with (fail)
 generalize (w.alloc _).alloc _ = w0 at *
 replace HG : Hid (Blks w w0 [(w.heap.size + 1, aggT noP, 25), (w.heap.size, aggT (x0, x1), 42)]) := HG
 have HS := Lib.hid HG.out.h
 replace HS : Hid (Held w0 [((w.heap.size + 1), aggT noP, 25), (w.heap.size, aggT (x0, x1), 42)]) := Lib.hid (HG.out.h.pick [0, 1] _ rfl)
 refine wp_region_linek (S := fun w' => Held w' [((w.heap.size + 1), aggT noP, 25), (w.heap.size, aggT (x0, x1), 42)]) [(false, 0)] HS.out ?_
 replace HG := Lib.hid (HG.out.new (aggT noP) 25)
 refine sq_allock (some 3) 25 (aggT noP) (zero_pr _) (HG.out.h.pick [1, 2] _ rfl) ?_
 generalize w0.alloc _ = u1 at *
 generalize w0.heap.size = g1 at *
 refine sq_fink { tmps := List.toArray ([.agg (aggT (x0, x1)), .pointer (some ⟨w.heap.size, 0, none⟩), .pointer (some ⟨(w.heap.size + 1), 0, none⟩), .pointer (some ⟨g1, 0, none⟩), undef, undef, undef, undef, undef, undef, undef]), defers := [] } ?_
 refine ‹∀ a w, Code.wp _ _ _ a w → _› _ _ ?_
 go_upto_region 2 with (fail)
 replace HS : Hid (Held u1 [((w.heap.size + 1), aggT noP, 25), (w.heap.size, aggT (x0, x1), 42)]) := Lib.hid (HG.out.h.pick [1, 2] _ rfl)
 refine wp_region_linek (S := fun w' => Held w' [((w.heap.size + 1), aggT noP, 25), (w.heap.size, aggT (x0, x1), 42)]) [(true, 0), (true, 1), (true, 2), (false, 3)] HS.out ?_
 refine sq_psk [(0, .pointer (some ⟨w.heap.size, 0, none⟩))] ?_
 refine sq_ldk (some 5) (wk_s (.tail _ (.head _)) (k := 0) rfl) ?_
 refine sq_psk [(2, .pointer (some ⟨g1, 0, none⟩))] ?_
 have HN := Lib.hid (HG.out.at 0 rfl)
 replace HG : Hid (Blks w (u1.setRow g1 (aggT (x0, noP.2))) [(g1, aggT (x0, noP.2), 25), ((w.heap.size + 1), aggT noP, 25), (w.heap.size, aggT (x0, x1), 42)]) := Lib.hid (HG.out.put 0 rfl (aggT (x0, noP.2)))
 refine sq_stm 9 g1 0 (.string x0) (aggT (x0, noP.2)) HN.out Tryz.wkS (by kernel_rfl) (by kernel_rfl) rfl (HG.out.h.pick [1, 2] _ rfl) (by kernel_rfl) ?_
 clear HN
 generalize World.setRow _ g1 _ = t2 at *
 refine sq_fink { tmps := List.toArray ([.agg (aggT (x0, x1)), .pointer (some ⟨w.heap.size, 0, none⟩), .pointer (some ⟨(w.heap.size + 1), 0, none⟩), .pointer (some ⟨g1, 0, none⟩), .pointer (some ⟨w.heap.size, 0, none⟩), .string x0, .pointer (some ⟨g1, 0, none⟩), undef, undef, undef, undef]), defers := [] } ?_
 refine ‹∀ a w, Code.wp _ _ _ a w → _› _ _ ?_
 go_upto_region 3 with (fail)
 replace HS : Hid (Held t2 [((w.heap.size + 1), aggT noP, 25), (w.heap.size, aggT (x0, x1), 42)]) := Lib.hid (HG.out.h.pick [1, 2] _ rfl)
 refine wp_region_linek (S := fun w' => Held w' [((w.heap.size + 1), aggT noP, 25), (w.heap.size, aggT (x0, x1), 42)]) [(true, 0), (true, 1), (true, 2), (false, 3)] HS.out ?_
 refine sq_psk [(0, .pointer (some ⟨w.heap.size, 1, none⟩))] ?_
 refine sq_ldk (some 8) (wk_s (.tail _ (.head _)) (k := 1) rfl) ?_
 refine sq_psk [(2, .pointer (some ⟨g1, 1, none⟩))] ?_
 have HN := Lib.hid (HG.out.at 0 rfl)
 replace HG : Hid (Blks w (t2.setRow g1 (aggT (x0, x1))) [(g1, aggT (x0, x1), 25), ((w.heap.size + 1), aggT noP, 25), (w.heap.size, aggT (x0, x1), 42)]) := Lib.hid (HG.out.put 0 rfl (aggT (x0, x1)))
 refine sq_stm 9 g1 1 (.string x1) (aggT (x0, x1)) HN.out Tryz.wkS (by kernel_rfl) (by kernel_rfl) rfl (HG.out.h.pick [1, 2] _ rfl) (by kernel_rfl) ?_
 clear HN
 generalize World.setRow _ g1 _ = t3 at *
 refine sq_fink { tmps := List.toArray ([.agg (aggT (x0, x1)), .pointer (some ⟨w.heap.size, 0, none⟩), .pointer (some ⟨(w.heap.size + 1), 0, none⟩), .pointer (some ⟨g1, 0, none⟩), .pointer (some ⟨w.heap.size, 0, none⟩), .string x0, .pointer (some ⟨g1, 0, none⟩), .pointer (some ⟨w.heap.size, 1, none⟩), .string x1, .pointer (some ⟨g1, 1, none⟩), undef]), defers := [] } ?_
 refine ‹∀ a w, Code.wp _ _ _ a w → _› _ _ ?_
 go_upto_region 4 with (fail)
 replace HS : Hid (Held t3 [(g1, aggT (x0, x1), 25), (w.heap.size, aggT (x0, x1), 42)]) := Lib.hid (HG.out.h.pick [0, 2] _ rfl)
 refine wp_region_linek (S := fun w' => Held w' [(g1, aggT (x0, x1), 25), (w.heap.size, aggT (x0, x1), 42)]) [(true, 0), (false, 1)] HS.out ?_
 refine sq_ldk (some 10) (ld_mid' (D := aggT (x0, x1)) (k := 0) Tryz.underlying25 rfl Tryz.infoP (.head _) rfl) ?_
 have HN := Lib.hid (HG.out.at 1 rfl)
 replace HG : Hid (Blks w (t3.setRow (w.heap.size + 1) (aggT (x0, x1))) [(g1, aggT (x0, x1), 25), ((w.heap.size + 1), aggT (x0, x1), 25), (w.heap.size, aggT (x0, x1), 42)]) := Lib.hid (HG.out.put 1 rfl (aggT (x0, x1)))
 refine sq_stk 25 (w.heap.size + 1) (aggT (x0, x1)) HN.out Tryz.infoP rfl (HG.out.h.pick [0, 2] _ rfl) ?_
 clear HN
 generalize World.setRow _ (w.heap.size + 1) _ = t4 at *
 refine sq_done ?_
 refine ‹∀ a w, Code.wp _ Code.ret _ a w → _› _ _ ?_
 refine wp_ret ?_
 try refine wk_block ?_
 try refine wk_then ?_
 exact bodyPost_ret (results_cell_row Tryz.results24 _ _ (w.heap.size + 1) _ _ _ _ (by kernel_rfl) (HG.out.at 1 rfl) Tryz.underlying25 rfl Tryz.infoP) (by kernel_rfl) ⟨rfl, HG.out.b⟩
theorem same_impl_Pair (x : Pt) (w : World) : Calls Tryz.prog 48 #[.agg (aggT x), .agg (aggT x)] w fun e w' => e = .returned (.bool true) ∧ Below w.heap.size w w' := by
 obtain ⟨x0, x1⟩ := x
 have HG := Lib.hid (blks2 w (aggT (x0, x1)) (aggT (x0, x1)) 25 25)
 go_enter Tryz.func48, Tryz.ntmps48
 go_upto_region 1 with (fail)
 generalize (w.alloc _).alloc _ = w0 at *
 have HS := Lib.hid HG.out.h
 replace HS : Hid (Held w0 [((w.heap.size + 1), aggT (x0, x1), 25), (w.heap.size, aggT (x0, x1), 25)]) := Lib.hid (HG.out.h.pick [0, 1] _ rfl)
 refine wp_region_linek (S := fun w' => Held w' [((w.heap.size + 1), aggT (x0, x1), 25), (w.heap.size, aggT (x0, x1), 25)]) [(true, 0), (true, 1), (true, 2), (true, 3), (true, 4)] HS.out ?_
 refine sq_psk [(0, .pointer (some ⟨w.heap.size, 0, none⟩))] ?_
 refine sq_ldk (some 6) (wk_s (.tail _ (.head _)) (k := 0) rfl) ?_
 refine sq_psk [(2, .pointer (some ⟨(w.heap.size + 1), 0, none⟩))] ?_
 refine sq_ldk (some 8) (wk_s (.head _) (k := 0) rfl) ?_
 refine sq_take (some 9) (.bool false) (by kernel_rfl) (ne_str (by kernel_rfl) (.tmp 6) (.tmp 8) (by kernel_rfl) x0 x0 true (decide_eq_true rfl) (by kernel_rfl) (by kernel_rfl)) ?_
 refine sq_fink { tmps := List.toArray ([.agg (aggT (x0, x1)), .agg (aggT (x0, x1)), .pointer (some ⟨w.heap.size, 0, none⟩), .pointer (some ⟨(w.heap.size + 1), 0, none⟩), .bool false, .pointer (some ⟨w.heap.size, 0, none⟩), .string x0, .pointer (some ⟨(w.heap.size + 1), 0, none⟩), .string x0, .bool false, undef, undef, undef, undef, undef]), defers := [] } ?_
 refine ‹∀ a w, Code.wp _ _ _ a w → _› _ _ ?_
 go_upto_region 3 with (fail)
 replace HS : Hid (Held w0 [((w.heap.size + 1), aggT (x0, x1), 25), (w.heap.size, aggT (x0, x1), 25)]) := Lib.hid (HG.out.h.pick [0, 1] _ rfl)
 refine wp_region_linek (S := fun w' => Held w' [((w.heap.size + 1), aggT (x0, x1), 25), (w.heap.size, aggT (x0, x1), 25)]) [(true, 0), (true, 1), (true, 2), (true, 3), (true, 4)] HS.out ?_
 refine sq_psk [(0, .pointer (some ⟨w.heap.size, 1, none⟩))] ?_
 refine sq_ldk (some 11) (wk_s (.tail _ (.head _)) (k := 1) rfl) ?_
 refine sq_psk [(2, .pointer (some ⟨(w.heap.size + 1), 1, none⟩))] ?_
 refine sq_ldk (some 13) (wk_s (.head _) (k := 1) rfl) ?_
 refine sq_take (some 14) (.bool false) (by kernel_rfl) (ne_str (by kernel_rfl) (.tmp 11) (.tmp 13) (by kernel_rfl) x1 x1 true (decide_eq_true rfl) (by kernel_rfl) (by kernel_rfl)) ?_
 refine sq_fink { tmps := List.toArray ([.agg (aggT (x0, x1)), .agg (aggT (x0, x1)), .pointer (some ⟨w.heap.size, 0, none⟩), .pointer (some ⟨(w.heap.size + 1), 0, none⟩), .bool false, .pointer (some ⟨w.heap.size, 0, none⟩), .string x0, .pointer (some ⟨(w.heap.size + 1), 0, none⟩), .string x0, .bool false, .pointer (some ⟨w.heap.size, 1, none⟩), .string x1, .pointer (some ⟨(w.heap.size + 1), 1, none⟩), .string x1, .bool false]), defers := [] } ?_
 refine ‹∀ a w, Code.wp _ _ _ a w → _› _ _ ?_
 go_upto_region 5 with (fail)
 replace HS : Hid (Held w0 [((w.heap.size + 1), aggT (x0, x1), 25), (w.heap.size, aggT (x0, x1), 25)]) := Lib.hid (HG.out.h.pick [0, 1] _ rfl)
 refine wp_region_linek (S := fun w' => Held w' [((w.heap.size + 1), aggT (x0, x1), 25), (w.heap.size, aggT (x0, x1), 25)]) [(true, 0)] HS.out ?_
 refine sq_psk [(0, .bool true)] ?_
 refine sq_done ?_
 refine ‹∀ a w, Code.wp _ Code.ret _ a w → _› _ _ ?_
 refine wp_ret ?_
 try refine wk_block ?_
 try refine wk_then ?_
 exact wk_ret (v := .bool true) Tryz.results48 (by kernel_rfl) (by kernel_rfl) ⟨rfl, HG.out.b⟩
theorem same_impl_PairPoint (x : Tq) (w : World) : Calls Tryz.prog 21 #[.agg (tqT x), .agg (tqT x)] w fun e w' => e = .returned (.bool true) ∧ Below w.heap.size w w' := by
 obtain ⟨x0, x1, x2⟩ := x
 have HG := Lib.hid (blks2 w (tqT (x0, x1, x2)) (tqT (x0, x1, x2)) 27 27)
 go_enter Tryz.func21, Tryz.ntmps21
 go_upto_region 1 with (fail)
 generalize (w.alloc _).alloc _ = w0 at *
 have HS := Lib.hid HG.out.h
 replace HS : Hid (Held w0 [((w.heap.size + 1), tqT (x0, x1, x2), 27), (w.heap.size, tqT (x0, x1, x2), 27)]) := Lib.hid (HG.out.h.pick [0, 1] _ rfl)
 refine wp_region_linek (S := fun w' => Held w' [((w.heap.size + 1), tqT (x0, x1, x2), 27), (w.heap.size, tqT (x0, x1, x2), 27)]) [(true, 0), (true, 1), (true, 2), (true, 3), (true, 4)] HS.out ?_
 refine sq_psk [(0, .pointer (some ⟨w.heap.size, 0, none⟩))] ?_
 refine sq_ldk (some 6) (wk_b (.tail _ (.head _)) (k := 0) rfl) ?_
 refine sq_psk [(2, .pointer (some ⟨(w.heap.size + 1), 0, none⟩))] ?_
 refine sq_ldk (some 8) (wk_b (.head _) (k := 0) rfl) ?_
 refine sq_v (some 9) (.bool (x0 != x0)) (.bool false) (congrArg Value.bool (bne_self_eq_false _)) (by kernel_rfl) (by kernel_rfl) (fun _ => (by kernel_rfl)) ?_
 refine sq_fink { tmps := List.toArray ([.agg (tqT (x0, x1, x2)), .agg (tqT (x0, x1, x2)), .pointer (some ⟨w.heap.size, 0, none⟩), .pointer (some ⟨(w.heap.size + 1), 0, none⟩), .bool false, .pointer (some ⟨w.heap.size, 0, none⟩), .bool x0, .pointer (some ⟨(w.heap.size + 1), 0, none⟩), .bool x0, .bool false, undef, undef, undef, undef, undef, undef, undef, undef, undef, undef, undef, undef]), defers := [] } ?_
 refine ‹∀ a w, Code.wp _ _ _ a w → _› _ _ ?_
 go_upto_region 3 with (fail)
 replace HS : Hid (Held w0 [((w.heap.size + 1), tqT (x0, x1, x2), 27), (w.heap.size, tqT (x0, x1, x2), 27)]) := Lib.hid (HG.out.h.pick [0, 1] _ rfl)
 refine wp_region_linek (S := fun w' => Held w' [((w.heap.size + 1), tqT (x0, x1, x2), 27), (w.heap.size, tqT (x0, x1, x2), 27)]) [(true, 0), (true, 1), (true, 2), (true, 3), (false, 4), (true, 5)] HS.out ?_
 refine sq_psk [(0, .pointer (some ⟨w.heap.size, 1, none⟩))] ?_
 refine sq_ldk (some 11) (ld_mid' (D := aggT x1) (k := 1) Tryz.underlying25 rfl Tryz.infoP (.tail _ (.head _)) rfl) ?_
 refine sq_psk [(2, .pointer (some ⟨(w.heap.size + 1), 1, none⟩))] ?_
 refine sq_ldk (some 13) (ld_mid' (D := aggT x1) (k := 1) Tryz.underlying25 rfl Tryz.infoP (.head _) rfl) ?_
 refine sq_ck (some 14) Tryz.func48 (same_impl_Pair x1 _) ?_
 rintro e v1 ⟨rfl, bw⟩
 replace HG := Lib.hid (HG.out.on bw)
 clear bw
 refine ⟨_, rfl, (HG.out.h.pick [0, 1] _ rfl), ?_⟩
 refine sq_psk [(5, .bool false)] ?_
 refine sq_fink { tmps := List.toArray ([.agg (tqT (x0, x1, x2)), .agg (tqT (x0, x1, x2)), .pointer (some ⟨w.heap.size, 0, none⟩), .pointer (some ⟨(w.heap.size + 1), 0, none⟩), .bool false, .pointer (some ⟨w.heap.size, 0, none⟩), .bool x0, .pointer (some ⟨(w.heap.size + 1), 0, none⟩), .bool x0, .bool false, .pointer (some ⟨w.heap.size, 1, none⟩), .agg (aggT x1), .pointer (some ⟨(w.heap.size + 1), 1, none⟩), .agg (aggT x1), .bool true, .bool false, undef, undef, undef, undef, undef, undef]), defers := [] } ?_
 refine ‹∀ a w, Code.wp _ _ _ a w → _› _ _ ?_
 go_upto_region 5 with (fail)
 replace HS : Hid (Held v1 [((w.heap.size + 1), tqT (x0, x1, x2), 27), (w.heap.size, tqT (x0, x1, x2), 27)]) := Lib.hid (HG.out.h.pick [0, 1] _ rfl)
 refine wp_region_linek (S := fun w' => Held w' [((w.heap.size + 1), tqT (x0, x1, x2), 27), (w.heap.size, tqT (x0, x1, x2), 27)]) [(true, 0), (true, 1), (true, 2), (true, 3), (false, 4), (true, 5)] HS.out ?_
 refine sq_psk [(0, .pointer (some ⟨w.heap.size, 3, none⟩))] ?_
 refine sq_ldk (some 17) (ld_mid' (D := aggT x2) (k := 3) Tryz.underlying25 rfl Tryz.infoP (.tail _ (.head _)) rfl) ?_
 refine sq_psk [(2, .pointer (some ⟨(w.heap.size + 1), 3, none⟩))] ?_
 refine sq_ldk (some 19) (ld_mid' (D := aggT x2) (k := 3) Tryz.underlying25 rfl Tryz.infoP (.head _) rfl) ?_
 refine sq_ck (some 20) Tryz.func48 (same_impl_Pair x2 _) ?_
 rintro e v2 ⟨rfl, bw⟩
 replace HG := Lib.hid (HG.out.on bw)
 clear bw
 refine ⟨_, rfl, (HG.out.h.pick [0, 1] _ rfl), ?_⟩
 refine sq_psk [(5, .bool false)] ?_
 refine sq_fink { tmps := List.toArray ([.agg (tqT (x0, x1, x2)), .agg (tqT (x0, x1, x2)), .pointer (some ⟨w.heap.size, 0, none⟩), .pointer (some ⟨(w.heap.size + 1), 0, none⟩), .bool false, .pointer (some ⟨w.heap.size, 0, none⟩), .bool x0, .pointer (some ⟨(w.heap.size + 1), 0, none⟩), .bool x0, .bool false, .pointer (some ⟨w.heap.size, 1, none⟩), .agg (aggT x1), .pointer (some ⟨(w.heap.size + 1), 1, none⟩), .agg (aggT x1), .bool true, .bool false, .pointer (some ⟨w.heap.size, 3, none⟩), .agg (aggT x2), .pointer (some ⟨(w.heap.size + 1), 3, none⟩), .agg (aggT x2), .bool true, .bool false]), defers := [] } ?_
 refine ‹∀ a w, Code.wp _ _ _ a w → _› _ _ ?_
 go_upto_region 7 with (fail)
 replace HS : Hid (Held v2 [((w.heap.size + 1), tqT (x0, x1, x2), 27), (w.heap.size, tqT (x0, x1, x2), 27)]) := Lib.hid (HG.out.h.pick [0, 1] _ rfl)
 refine wp_region_linek (S := fun w' => Held w' [((w.heap.size + 1), tqT (x0, x1, x2), 27), (w.heap.size, tqT (x0, x1, x2), 27)]) [(true, 0)] HS.out ?_
 refine sq_psk [(0, .bool true)] ?_
 refine sq_done ?_
 refine ‹∀ a w, Code.wp _ Code.ret _ a w → _› _ _ ?_
 refine wp_ret ?_
 try refine wk_block ?_
 try refine wk_then ?_
 exact wk_ret (v := .bool true) Tryz.results21 (by kernel_rfl) (by kernel_rfl) ⟨rfl, HG.out.b⟩
end Go.Proofs.YtdajgcgliidjbaaGreat

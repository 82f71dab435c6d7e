/-
  ort Derived.Test.YtdajgcgliidjbaaGreatZQo
-/
import Derived.Test.YtdajgcgliidjbaaGreatRows
import Derived.WalkKit
import Derived.ProofKit
import Derived.OpenShut
import Derived.ShutString
import Derived.ChangeOld
import Derived.Below
import Derived.Test.YtdajgcgliidjbaaGreatZQo
import Derived.Test.YtdajgcgliidjbaaGreatZQx
import Derived.Test.YtdajgcgliidjbaaGreatZQa
import Derived.Test.YtdajgcgliidjbaaGreatZQi
namespace Go.Proofs.YtdajgcgliidjbaaGreat.fnExactAddPairPoint
open Go.ChangeShapes Go.WideShapes Go.ChangeAt Go.RowKit
open Go.ChangeMaps (open_string shut_string)
set_option linter.unusedVariables false
set_option maxRecDepth 8000
set_option maxHeartbeats 4000000
theorem walk (a0 : Int) (a1 : Tq) (a2 : Tq) (w : World) (_w0 : (Lit.int .i64 a0).wf = true) (_w1 : wf_laws_PairPoint a1) (_w2 : wf_laws_PairPoint a2) :
  Calls Tryz.prog 4 #[.int .i64 a0, .agg (tqT a1), .agg (tqT a2)] w fun e w' => e = .returned (.bool true) ∧ Below w.heap.size w w' := by
 have HSp := Lib.hid (addPairPoint_any a0 a1 a2)
 have HIm := Lib.hid (addPairPoint_i a0 a1 a2)
 generalize addQG a0 a1 a2 = r at *
 clear _w0 _w1 _w2
 have HG := Lib.hid (blks2 w (tqT a1) (tqT a2) 44 44)
 go_enter Tryz.func4, Tryz.ntmps4
 go_upto_region 1 with (fail)
 generalize (w.alloc _).alloc _ = w0 at *
 have HS := Lib.hid HG.out.h
 replace HS : Hid (Held w0 [((w.heap.size + 1), tqT a2, 44), (w.heap.size, tqT a1, 44)]) := Lib.hid (HG.out.h.pick [0, 1] _ rfl)
 refine wp_region_linek (S := fun w' => Held w' [((w.heap.size + 1), tqT a2, 44), (w.heap.size, tqT a1, 44)]) [(true, 0)] HS.out ?_
 refine sq_psk [(0, .int .i64 1048576)] ?_
 refine sq_fink { tmps := List.toArray ([.int .i64 a0, .agg (tqT a1), .agg (tqT a2), undef, .pointer (some ⟨w.heap.size, 0, none⟩), .pointer (some ⟨(w.heap.size + 1), 0, none⟩), .bool false, .int .i64 1048576, undef, undef, undef, undef, undef, undef, undef, undef, undef, undef, undef, undef, undef, undef, undef, undef, undef, undef, undef, undef, undef, undef, undef, undef, undef, undef, undef, undef]), defers := [] } ?_
 refine ‹∀ a w, Code.wp _ _ _ a w → _› _ _ ?_
 go_upto_region 2 with (fail)
 replace HS : Hid (Held w0 [((w.heap.size + 1), tqT a2, 44), (w.heap.size, tqT a1, 44)]) := Lib.hid (HG.out.h.pick [0, 1] _ rfl)
 refine wp_region_linek (S := fun w' => Held w' [((w.heap.size + 1), tqT a2, 44), (w.heap.size, tqT a1, 44)]) [(true, 0), (true, 1), (false, 2), (true, 3)] HS.out ?_
 refine sq_ldk (some 10) (ld_mid' (D := tqT a1) (k := 0) Tryz.underlying44 rfl Tryz.info_lpq (.tail _ (.head _)) rfl) ?_
 refine sq_psk [(1, .int .i64 1048576)] ?_
 refine sq_ck (some 12) Tryz.func18 (sz_laws_PairPoint a1 ( 1048576) _) ?_
 rintro e v1 ⟨⟨zz1, rfl⟩, bw⟩
 replace HG := Lib.hid (HG.out.on bw)
 clear bw
 refine ⟨_, rfl, (HG.out.h.pick [0, 1] _ rfl), ?_⟩
 refine sq_psk [(3, .int .i64 zz1)] ?_
 refine sq_fink { tmps := List.toArray ([.int .i64 a0, .agg (tqT a1), .agg (tqT a2), undef, .pointer (some ⟨w.heap.size, 0, none⟩), .pointer (some ⟨(w.heap.size + 1), 0, none⟩), .bool false, .int .i64 zz1, undef, undef, .agg (tqT a1), .int .i64 1048576, .int .i64 zz1, undef, undef, undef, undef, undef, undef, undef, undef, undef, undef, undef, undef, undef, undef, undef, undef, undef, undef, undef, undef, undef, undef, undef]), defers := [] } ?_
 refine ‹∀ a w, Code.wp _ _ _ a w → _› _ _ ?_
 go_upto_region 3 with (fail)
 replace HS : Hid (Held v1 [((w.heap.size + 1), tqT a2, 44), (w.heap.size, tqT a1, 44)]) := Lib.hid (HG.out.h.pick [0, 1] _ rfl)
 refine wp_region_linek (S := fun w' => Held w' [((w.heap.size + 1), tqT a2, 44), (w.heap.size, tqT a1, 44)]) [(true, 0), (true, 1)] HS.out ?_
 refine sq_psk [(0, .int .i64 zz1), (1, .bool (decide (zz1 < 0)))] ?_
 refine sq_fink { tmps := List.toArray ([.int .i64 a0, .agg (tqT a1), .agg (tqT a2), undef, .pointer (some ⟨w.heap.size, 0, none⟩), .pointer (some ⟨(w.heap.size + 1), 0, none⟩), .bool false, .int .i64 zz1, undef, undef, .agg (tqT a1), .int .i64 1048576, .int .i64 zz1, .int .i64 zz1, .bool (decide (zz1 < 0)), undef, undef, undef, undef, undef, undef, undef, undef, undef, undef, undef, undef, undef, undef, undef, undef, undef, undef, undef, undef, undef]), defers := [] } ?_
 refine ‹∀ a w, Code.wp _ _ _ a w → _› _ _ ?_
 by_cases hc2 : (decide (zz1 < 0)) = true
 ·rw [hc2]
  go_upto_region 4 with (fail)
  replace HS : Hid (Held v1 [((w.heap.size + 1), tqT a2, 44), (w.heap.size, tqT a1, 44)]) := Lib.hid (HG.out.h.pick [0, 1] _ rfl)
  refine wp_region_linek (S := fun w' => Held w' [((w.heap.size + 1), tqT a2, 44), (w.heap.size, tqT a1, 44)]) [(true, 0)] HS.out ?_
  refine sq_psk [(0, .bool true)] ?_
  refine sq_done ?_
  refine ‹∀ a w, Code.wp _ Code.ret _ a w → _› _ _ ?_
  refine wp_ret ?_
  try refine wk_block ?_
  try refine wk_then ?_
  exact wk_ret (v := .bool true) Tryz.results4 (by kernel_rfl) (by kernel_rfl) ⟨rfl, HG.out.b⟩
 ·replace hc2 := eq_false_of_ne_true hc2
  rw [hc2]
  go_upto_region 5 with (fail)
  replace HS : Hid (Held v1 [((w.heap.size + 1), tqT a2, 44), (w.heap.size, tqT a1, 44)]) := Lib.hid (HG.out.h.pick [0, 1] _ rfl)
  refine wp_region_linek (S := fun w' => Held w' [((w.heap.size + 1), tqT a2, 44), (w.heap.size, tqT a1, 44)]) [(true, 0), (true, 1), (false, 2), (true, 3)] HS.out ?_
  refine sq_ldk (some 15) (ld_mid' (D := tqT a2) (k := 0) Tryz.underlying44 rfl Tryz.info_lpq (.head _) rfl) ?_
  refine sq_psk [(1, .int .i64 zz1)] ?_
  refine sq_ck (some 17) Tryz.func18 (sz_laws_PairPoint a2 ( zz1) _) ?_
  rintro e v3 ⟨⟨zz3, rfl⟩, bw⟩
  replace HG := Lib.hid (HG.out.on bw)
  clear bw
  refine ⟨_, rfl, (HG.out.h.pick [0, 1] _ rfl), ?_⟩
  refine sq_psk [(3, .int .i64 zz3)] ?_
  refine sq_fink { tmps := List.toArray ([.int .i64 a0, .agg (tqT a1), .agg (tqT a2), undef, .pointer (some ⟨w.heap.size, 0, none⟩), .pointer (some ⟨(w.heap.size + 1), 0, none⟩), .bool false, .int .i64 zz3, undef, undef, .agg (tqT a1), .int .i64 1048576, .int .i64 zz1, .int .i64 zz1, .bool false, .agg (tqT a2), .int .i64 zz1, .int .i64 zz3, undef, undef, undef, undef, undef, undef, undef, undef, undef, undef, undef, undef, undef, undef, undef, undef, undef, undef]), defers := [] } ?_
  refine ‹∀ a w, Code.wp _ _ _ a w → _› _ _ ?_
  go_upto_region 6 with (fail)
  replace HS : Hid (Held v3 [((w.heap.size + 1), tqT a2, 44), (w.heap.size, tqT a1, 44)]) := Lib.hid (HG.out.h.pick [0, 1] _ rfl)
  refine wp_region_linek (S := fun w' => Held w' [((w.heap.size + 1), tqT a2, 44), (w.heap.size, tqT a1, 44)]) [(true, 0), (true, 1)] HS.out ?_
  refine sq_psk [(0, .int .i64 zz3), (1, .bool (decide (zz3 < 0)))] ?_
  refine sq_fink { tmps := List.toArray ([.int .i64 a0, .agg (tqT a1), .agg (tqT a2), undef, .pointer (some ⟨w.heap.size, 0, none⟩), .pointer (some ⟨(w.heap.size + 1), 0, none⟩), .bool false, .int .i64 zz3, undef, undef, .agg (tqT a1), .int .i64 1048576, .int .i64 zz1, .int .i64 zz1, .bool false, .agg (tqT a2), .int .i64 zz1, .int .i64 zz3, .int .i64 zz3, .bool (decide (zz3 < 0)), undef, undef, undef, undef, undef, undef, undef, undef, undef, undef, undef, undef, undef, undef, undef, undef]), defers := [] } ?_
  refine ‹∀ a w, Code.wp _ _ _ a w → _› _ _ ?_
  by_cases hc4 : (decide (zz3 < 0)) = true
  ·rw [hc4]
   go_upto_region 7 with (fail)
   replace HS : Hid (Held v3 [((w.heap.size + 1), tqT a2, 44), (w.heap.size, tqT a1, 44)]) := Lib.hid (HG.out.h.pick [0, 1] _ rfl)
   refine wp_region_linek (S := fun w' => Held w' [((w.heap.size + 1), tqT a2, 44), (w.heap.size, tqT a1, 44)]) [(true, 0)] HS.out ?_
   refine sq_psk [(0, .bool true)] ?_
   refine sq_done ?_
   refine ‹∀ a w, Code.wp _ Code.ret _ a w → _› _ _ ?_
   refine wp_ret ?_
   try refine wk_block ?_
   try refine wk_then ?_
   exact wk_ret (v := .bool true) Tryz.results4 (by kernel_rfl) (by kernel_rfl) ⟨rfl, HG.out.b⟩
  ·replace hc4 := eq_false_of_ne_true hc4
   rw [hc4]
   go_upto_region 8 with (fail)
   replace HS : Hid (Held v3 [((w.heap.size + 1), tqT a2, 44), (w.heap.size, tqT a1, 44)]) := Lib.hid (HG.out.h.pick [0, 1] _ rfl)
   refine Code.wp_mono (Q := fun e a' w' => e = .normal ∧ ∃ (g5 : Nat), a' = { tmps := List.toArray ([.int .i64 a0, .agg (tqT a1), .agg (tqT a2), undef, .pointer (some ⟨w.heap.size, 0, none⟩), .pointer (some ⟨(w.heap.size + 1), 0, none⟩), .bool false, .int .i64 zz3, .pointer (some ⟨g5, 0, none⟩), undef, .agg (tqT a1), .int .i64 1048576, .int .i64 zz1, .int .i64 zz1, .bool false, .agg (tqT a2), .int .i64 zz1, .int .i64 zz3, .int .i64 zz3, .bool false, .int .i64 a0, .agg (tqT a1), .agg (tqT a1), .agg (tqT a2), .agg (tqT a2), .agg (tqT r), undef, undef, undef, undef, undef, undef, undef, undef, undef, undef]), defers := [] } ∧ Blks w w' [(g5, tqT r, 27), ((w.heap.size + 1), tqT a2, 44), (w.heap.size, tqT a1, 44)]) ?_ ?_
   rotate_left
   ·refine m_begin (S := fun w' => Held w' [((w.heap.size + 1), tqT a2, 44), (w.heap.size, tqT a1, 44)]) (by kernel_rfl) 8 (by kernel_rfl) ?_
    replace HG := Lib.hid HG.out.drew
    change wpM _ _ _ _ _ _ _ _ (World.drew _)
    generalize World.drew v3 = v500 at *
    refine m_seqi (f := 5) [(true, 0), (true, 1), (true, 3)] 11 (HG.out.h.pick [0, 1] _ rfl) ?_
    refine sq_psk [(0, .int .i64 a0)] ?_
    refine sq_ldk (some 21) (ld_mid' (D := tqT a1) (k := 0) Tryz.underlying44 rfl Tryz.info_lpq (.tail _ (.head _)) rfl) ?_
    refine sq_ldk (some 23) (ld_mid' (D := tqT a2) (k := 0) Tryz.underlying44 rfl Tryz.info_lpq (.head _) rfl) ?_
    refine sq_done ?_
    refine m_maskk (M' := 11) ?_
    refine m_waysi (f := 4) [2, 6] ?_
    intro i hi
    rcases (by simpa using hi : i = 2 ∨ i = 6) with rfl | rfl
    ·refine sq_ck (some 22) Tryz.func20 (to_laws_PairPoint a1 _) ?_
     rintro e v501 ⟨rfl, bw⟩
     replace HG := Lib.hid (HG.out.on bw)
     clear bw
     refine ⟨_, rfl, (HG.out.h.pick [0, 1] _ rfl), ?_⟩
     refine sq_done ?_
     refine m_maskk (M' := 15) ?_
     refine m_waysi (f := 3) [4, 6] ?_
     intro i hi
     rcases (by simpa using hi : i = 4 ∨ i = 6) with rfl | rfl
     ·refine sq_ck (some 24) Tryz.func20 (to_laws_PairPoint a2 _) ?_
      rintro e v502 ⟨rfl, bw⟩
      replace HG := Lib.hid (HG.out.on bw)
      clear bw
      refine ⟨_, rfl, (HG.out.h.pick [0, 1] _ rfl), ?_⟩
      refine sq_done ?_
      refine m_maskk (M' := 31) ?_
      refine m_waysi (f := 2) [5, 6] ?_
      intro i hi
      rcases (by simpa using hi : i = 5 ∨ i = 6) with rfl | rfl
      ·refine sq_ck (some 25) Tryz.func19 (HSp.out _) ?_
       rintro e v503 ⟨rfl, bw⟩
       replace HG := Lib.hid (HG.out.on bw)
       clear bw
       refine ⟨_, rfl, (HG.out.h.pick [0, 1] _ rfl), ?_⟩
       refine sq_done ?_
       refine m_maskk (M' := 63) ?_
       refine m_seqi (f := 1) [(false, 6)] 127 (HG.out.h.pick [0, 1] _ rfl) ?_
       replace HG := Lib.hid (HG.out.new (tqT (false, noP, noP)) 27)
       refine sq_allock (some 8) 27 (tqT (false, noP, noP)) (zero_pq _) (HG.out.h.pick [1, 2] _ rfl) ?_
       generalize v503.alloc _ = u504 at *
       generalize v503.heap.size = g5 at *
       refine sq_done ?_
       refine m_maskk (M' := 127) ?_
       refine m_seqi (f := 0) [(false, 7)] 255 (HG.out.h.pick [1, 2] _ rfl) ?_
       have HN := Lib.hid (HG.out.at 0 rfl)
       replace HG : Hid (Blks w (u504.setRow g5 (tqT r)) [(g5, tqT r, 27), ((w.heap.size + 1), tqT a2, 44), (w.heap.size, tqT a1, 44)]) := Lib.hid (HG.out.put 0 rfl (tqT r))
       refine sq_stk 27 g5 (tqT r) HN.out Tryz.infoPq rfl (HG.out.h.pick [1, 2] _ rfl) ?_
       clear HN
       generalize World.setRow _ g5 _ = t505 at *
       refine sq_done ?_
       refine m_maskk (M' := 255) ?_
       refine m_donei { tmps := List.toArray ([.int .i64 a0, .agg (tqT a1), .agg (tqT a2), undef, .pointer (some ⟨w.heap.size, 0, none⟩), .pointer (some ⟨(w.heap.size + 1), 0, none⟩), .bool false, .int .i64 zz3, .pointer (some ⟨g5, 0, none⟩), undef, .agg (tqT a1), .int .i64 1048576, .int .i64 zz1, .int .i64 zz1, .bool false, .agg (tqT a2), .int .i64 zz1, .int .i64 zz3, .int .i64 zz3, .bool false, .int .i64 a0, .agg (tqT a1), .agg (tqT a1), .agg (tqT a2), .agg (tqT a2), .agg (tqT r), undef, undef, undef, undef, undef, undef, undef, undef, undef, undef]), defers := [] } ?_
       exact ⟨rfl, g5, rfl, HG.out.sub [0, 1, 2] _ rfl (by decide)⟩
      ·replace HG := Lib.hid (HG.out.new (tqT (false, noP, noP)) 27)
       refine sq_allock (some 8) 27 (tqT (false, noP, noP)) (zero_pq _) (HG.out.h.pick [1, 2] _ rfl) ?_
       generalize v502.alloc _ = u503 at *
       generalize v502.heap.size = g5 at *
       refine sq_done ?_
       refine m_maskk (M' := 95) ?_
       refine m_seqi (f := 1) [(false, 5)] 127 (HG.out.h.pick [1, 2] _ rfl) ?_
       refine sq_ck (some 25) Tryz.func19 (HSp.out _) ?_
       rintro e v504 ⟨rfl, bw⟩
       replace HG := Lib.hid (HG.out.on bw)
       clear bw
       refine ⟨_, rfl, (HG.out.h.pick [1, 2] _ rfl), ?_⟩
       refine sq_done ?_
       refine m_maskk (M' := 127) ?_
       refine m_seqi (f := 0) [(false, 7)] 255 (HG.out.h.pick [1, 2] _ rfl) ?_
       have HN := Lib.hid (HG.out.at 0 rfl)
       replace HG : Hid (Blks w (v504.setRow g5 (tqT r)) [(g5, tqT r, 27), ((w.heap.size + 1), tqT a2, 44), (w.heap.size, tqT a1, 44)]) := Lib.hid (HG.out.put 0 rfl (tqT r))
       refine sq_stk 27 g5 (tqT r) HN.out Tryz.infoPq rfl (HG.out.h.pick [1, 2] _ rfl) ?_
       clear HN
       generalize World.setRow _ g5 _ = t505 at *
       refine sq_done ?_
       refine m_maskk (M' := 255) ?_
       refine m_donei { tmps := List.toArray ([.int .i64 a0, .agg (tqT a1), .agg (tqT a2), undef, .pointer (some ⟨w.heap.size, 0, none⟩), .pointer (some ⟨(w.heap.size + 1), 0, none⟩), .bool false, .int .i64 zz3, .pointer (some ⟨g5, 0, none⟩), undef, .agg (tqT a1), .int .i64 1048576, .int .i64 zz1, .int .i64 zz1, .bool false, .agg (tqT a2), .int .i64 zz1, .int .i64 zz3, .int .i64 zz3, .bool false, .int .i64 a0, .agg (tqT a1), .agg (tqT a1), .agg (tqT a2), .agg (tqT a2), .agg (tqT r), undef, undef, undef, undef, undef, undef, undef, undef, undef, undef]), defers := [] } ?_
       exact ⟨rfl, g5, rfl, HG.out.sub [0, 1, 2] _ rfl (by decide)⟩
     ·replace HG := Lib.hid (HG.out.new (tqT (false, noP, noP)) 27)
      refine sq_allock (some 8) 27 (tqT (false, noP, noP)) (zero_pq _) (HG.out.h.pick [1, 2] _ rfl) ?_
      generalize v501.alloc _ = u502 at *
      generalize v501.heap.size = g5 at *
      refine sq_done ?_
      refine m_maskk (M' := 79) ?_
      refine m_seqi (f := 2) [(false, 4)] 95 (HG.out.h.pick [1, 2] _ rfl) ?_
      refine sq_ck (some 24) Tryz.func20 (to_laws_PairPoint a2 _) ?_
      rintro e v503 ⟨rfl, bw⟩
      replace HG := Lib.hid (HG.out.on bw)
      clear bw
      refine ⟨_, rfl, (HG.out.h.pick [1, 2] _ rfl), ?_⟩
      refine sq_done ?_
      refine m_maskk (M' := 95) ?_
      refine m_seqi (f := 1) [(false, 5)] 127 (HG.out.h.pick [1, 2] _ rfl) ?_
      refine sq_ck (some 25) Tryz.func19 (HSp.out _) ?_
      rintro e v504 ⟨rfl, bw⟩
      replace HG := Lib.hid (HG.out.on bw)
      clear bw
      refine ⟨_, rfl, (HG.out.h.pick [1, 2] _ rfl), ?_⟩
      refine sq_done ?_
      refine m_maskk (M' := 127) ?_
      refine m_seqi (f := 0) [(false, 7)] 255 (HG.out.h.pick [1, 2] _ rfl) ?_
      have HN := Lib.hid (HG.out.at 0 rfl)
      replace HG : Hid (Blks w (v504.setRow g5 (tqT r)) [(g5, tqT r, 27), ((w.heap.size + 1), tqT a2, 44), (w.heap.size, tqT a1, 44)]) := Lib.hid (HG.out.put 0 rfl (tqT r))
      refine sq_stk 27 g5 (tqT r) HN.out Tryz.infoPq rfl (HG.out.h.pick [1, 2] _ rfl) ?_
      clear HN
      generalize World.setRow _ g5 _ = t505 at *
      refine sq_done ?_
      refine m_maskk (M' := 255) ?_
      refine m_donei { tmps := List.toArray ([.int .i64 a0, .agg (tqT a1), .agg (tqT a2), undef, .pointer (some ⟨w.heap.size, 0, none⟩), .pointer (some ⟨(w.heap.size + 1), 0, none⟩), .bool false, .int .i64 zz3, .pointer (some ⟨g5, 0, none⟩), undef, .agg (tqT a1), .int .i64 1048576, .int .i64 zz1, .int .i64 zz1, .bool false, .agg (tqT a2), .int .i64 zz1, .int .i64 zz3, .int .i64 zz3, .bool false, .int .i64 a0, .agg (tqT a1), .agg (tqT a1), .agg (tqT a2), .agg (tqT a2), .agg (tqT r), undef, undef, undef, undef, undef, undef, undef, undef, undef, undef]), defers := [] } ?_
      exact ⟨rfl, g5, rfl, HG.out.sub [0, 1, 2] _ rfl (by decide)⟩
    ·replace HG := Lib.hid (HG.out.new (tqT (false, noP, noP)) 27)
     refine sq_allock (some 8) 27 (tqT (false, noP, noP)) (zero_pq _) (HG.out.h.pick [1, 2] _ rfl) ?_
     generalize v500.alloc _ = u501 at *
     generalize v500.heap.size = g5 at *
     refine sq_done ?_
     refine m_maskk (M' := 75) ?_
     refine m_seqi (f := 3) [(false, 2)] 79 (HG.out.h.pick [1, 2] _ rfl) ?_
     refine sq_ck (some 22) Tryz.func20 (to_laws_PairPoint a1 _) ?_
     rintro e v502 ⟨rfl, bw⟩
     replace HG := Lib.hid (HG.out.on bw)
     clear bw
     refine ⟨_, rfl, (HG.out.h.pick [1, 2] _ rfl), ?_⟩
     refine sq_done ?_
     refine m_maskk (M' := 79) ?_
     refine m_seqi (f := 2) [(false, 4)] 95 (HG.out.h.pick [1, 2] _ rfl) ?_
     refine sq_ck (some 24) Tryz.func20 (to_laws_PairPoint a2 _) ?_
     rintro e v503 ⟨rfl, bw⟩
     replace HG := Lib.hid (HG.out.on bw)
     clear bw
     refine ⟨_, rfl, (HG.out.h.pick [1, 2] _ rfl), ?_⟩
     refine sq_done ?_
     refine m_maskk (M' := 95) ?_
     refine m_seqi (f := 1) [(false, 5)] 127 (HG.out.h.pick [1, 2] _ rfl) ?_
     refine sq_ck (some 25) Tryz.func19 (HSp.out _) ?_
     rintro e v504 ⟨rfl, bw⟩
     replace HG := Lib.hid (HG.out.on bw)
     clear bw
     refine ⟨_, rfl, (HG.out.h.pick [1, 2] _ rfl), ?_⟩
     refine sq_done ?_
     refine m_maskk (M' := 127) ?_
     refine m_seqi (f := 0) [(false, 7)] 255 (HG.out.h.pick [1, 2] _ rfl) ?_
     have HN := Lib.hid (HG.out.at 0 rfl)
     replace HG : Hid (Blks w (v504.setRow g5 (tqT r)) [(g5, tqT r, 27), ((w.heap.size + 1), tqT a2, 44), (w.heap.size, tqT a1, 44)]) := Lib.hid (HG.out.put 0 rfl (tqT r))
     refine sq_stk 27 g5 (tqT r) HN.out Tryz.infoPq rfl (HG.out.h.pick [1, 2] _ rfl) ?_
     clear HN
     generalize World.setRow _ g5 _ = t505 at *
     refine sq_done ?_
     refine m_maskk (M' := 255) ?_
     refine m_donei { tmps := List.toArray ([.int .i64 a0, .agg (tqT a1), .agg (tqT a2), undef, .pointer (some ⟨w.heap.size, 0, none⟩), .pointer (some ⟨(w.heap.size + 1), 0, none⟩), .bool false, .int .i64 zz3, .pointer (some ⟨g5, 0, none⟩), undef, .agg (tqT a1), .int .i64 1048576, .int .i64 zz1, .int .i64 zz1, .bool false, .agg (tqT a2), .int .i64 zz1, .int .i64 zz3, .int .i64 zz3, .bool false, .int .i64 a0, .agg (tqT a1), .agg (tqT a1), .agg (tqT a2), .agg (tqT a2), .agg (tqT r), undef, undef, undef, undef, undef, undef, undef, undef, undef, undef]), defers := [] } ?_
     exact ⟨rfl, g5, rfl, HG.out.sub [0, 1, 2] _ rfl (by decide)⟩
   rintro e a t5 ⟨rfl, g5, rfl, hG⟩
   replace HG := Lib.hid hG
   clear hG
   refine ‹∀ a w, Code.wp _ _ _ a w → _› _ _ ?_
   go_upto_region 9 with (fail)
   replace HS : Hid (Held t5 [(g5, tqT r, 27), ((w.heap.size + 1), tqT a2, 44), (w.heap.size, tqT a1, 44)]) := Lib.hid (HG.out.h.pick [0, 1, 2] _ rfl)
   refine Code.wp_mono (Q := fun e a' w' => e = .normal ∧ ∃ (g6 : Nat), a' = { tmps := List.toArray ([.int .i64 a0, .agg (tqT a1), .agg (tqT a2), undef, .pointer (some ⟨w.heap.size, 0, none⟩), .pointer (some ⟨(w.heap.size + 1), 0, none⟩), .bool false, .int .i64 zz3, .pointer (some ⟨g5, 0, none⟩), .pointer (some ⟨g6, 0, none⟩), .agg (tqT a1), .int .i64 1048576, .int .i64 zz1, .int .i64 zz1, .bool false, .agg (tqT a2), .int .i64 zz1, .int .i64 zz3, .int .i64 zz3, .bool false, .int .i64 a0, .agg (tqT a1), .agg (tqT a1), .agg (tqT a2), .agg (tqT a2), .agg (tqT r), .int .i64 a0, .agg (tqT a1), .agg (tqT a1), .agg (tqT a2), .agg (tqT a2), .agg (tqT r), undef, undef, undef, undef]), defers := [] } ∧ Blks w w' [(g6, tqT r, 27), (g5, tqT r, 27), ((w.heap.size + 1), tqT a2, 44), (w.heap.size, tqT a1, 44)]) ?_ ?_
   rotate_left
   ·refine m_begin (S := fun w' => Held w' [(g5, tqT r, 27), ((w.heap.size + 1), tqT a2, 44), (w.heap.size, tqT a1, 44)]) (by kernel_rfl) 8 (by kernel_rfl) ?_
    replace HG := Lib.hid HG.out.drew
    change wpM _ _ _ _ _ _ _ _ (World.drew _)
    generalize World.drew t5 = v600 at *
    refine m_seqi (f := 5) [(true, 0), (true, 1), (true, 3)] 11 (HG.out.h.pick [0, 1, 2] _ rfl) ?_
    refine sq_psk [(0, .int .i64 a0)] ?_
    refine sq_ldk (some 27) (ld_mid' (D := tqT a1) (k := 0) Tryz.underlying44 rfl Tryz.info_lpq (.tail _ (.tail _ (.head _))) rfl) ?_
    refine sq_ldk (some 29) (ld_mid' (D := tqT a2) (k := 0) Tryz.underlying44 rfl Tryz.info_lpq (.tail _ (.head _)) rfl) ?_
    refine sq_done ?_
    refine m_maskk (M' := 11) ?_
    refine m_waysi (f := 4) [2, 6] ?_
    intro i hi
    rcases (by simpa using hi : i = 2 ∨ i = 6) with rfl | rfl
    ·refine sq_ck (some 28) Tryz.func20 (to_laws_PairPoint a1 _) ?_
     rintro e v601 ⟨rfl, bw⟩
     replace HG := Lib.hid (HG.out.on bw)
     clear bw
     refine ⟨_, rfl, (HG.out.h.pick [0, 1, 2] _ rfl), ?_⟩
     refine sq_done ?_
     refine m_maskk (M' := 15) ?_
     refine m_waysi (f := 3) [4, 6] ?_
     intro i hi
     rcases (by simpa using hi : i = 4 ∨ i = 6) with rfl | rfl
     ·refine sq_ck (some 30) Tryz.func20 (to_laws_PairPoint a2 _) ?_
      rintro e v602 ⟨rfl, bw⟩
      replace HG := Lib.hid (HG.out.on bw)
      clear bw
      refine ⟨_, rfl, (HG.out.h.pick [0, 1, 2] _ rfl), ?_⟩
      refine sq_done ?_
      refine m_maskk (M' := 31) ?_
      refine m_waysi (f := 2) [5, 6] ?_
      intro i hi
      rcases (by simpa using hi : i = 5 ∨ i = 6) with rfl | rfl
      ·refine sq_ck (some 31) Tryz.func9 (HIm.out _) ?_
       rintro e v603 ⟨rfl, bw⟩
       replace HG := Lib.hid (HG.out.on bw)
       clear bw
       refine ⟨_, rfl, (HG.out.h.pick [0, 1, 2] _ rfl), ?_⟩
       refine sq_done ?_
       refine m_maskk (M' := 63) ?_
       refine m_seqi (f := 1) [(false, 6)] 127 (HG.out.h.pick [0, 1, 2] _ rfl) ?_
       replace HG := Lib.hid (HG.out.new (tqT (false, noP, noP)) 27)
       refine sq_allock (some 9) 27 (tqT (false, noP, noP)) (zero_pq _) (HG.out.h.pick [1, 2, 3] _ rfl) ?_
       generalize v603.alloc _ = u604 at *
       generalize v603.heap.size = g6 at *
       refine sq_done ?_
       refine m_maskk (M' := 127) ?_
       refine m_seqi (f := 0) [(false, 7)] 255 (HG.out.h.pick [1, 2, 3] _ rfl) ?_
       have HN := Lib.hid (HG.out.at 0 rfl)
       replace HG : Hid (Blks w (u604.setRow g6 (tqT r)) [(g6, tqT r, 27), (g5, tqT r, 27), ((w.heap.size + 1), tqT a2, 44), (w.heap.size, tqT a1, 44)]) := Lib.hid (HG.out.put 0 rfl (tqT r))
       refine sq_stk 27 g6 (tqT r) HN.out Tryz.infoPq rfl (HG.out.h.pick [1, 2, 3] _ rfl) ?_
       clear HN
       generalize World.setRow _ g6 _ = t605 at *
       refine sq_done ?_
       refine m_maskk (M' := 255) ?_
       refine m_donei { tmps := List.toArray ([.int .i64 a0, .agg (tqT a1), .agg (tqT a2), undef, .pointer (some ⟨w.heap.size, 0, none⟩), .pointer (some ⟨(w.heap.size + 1), 0, none⟩), .bool false, .int .i64 zz3, .pointer (some ⟨g5, 0, none⟩), .pointer (some ⟨g6, 0, none⟩), .agg (tqT a1), .int .i64 1048576, .int .i64 zz1, .int .i64 zz1, .bool false, .agg (tqT a2), .int .i64 zz1, .int .i64 zz3, .int .i64 zz3, .bool false, .int .i64 a0, .agg (tqT a1), .agg (tqT a1), .agg (tqT a2), .agg (tqT a2), .agg (tqT r), .int .i64 a0, .agg (tqT a1), .agg (tqT a1), .agg (tqT a2), .agg (tqT a2), .agg (tqT r), undef, undef, undef, undef]), defers := [] } ?_
       exact ⟨rfl, g6, rfl, HG.out.sub [0, 1, 2, 3] _ rfl (by decide)⟩
      ·replace HG := Lib.hid (HG.out.new (tqT (false, noP, noP)) 27)
       refine sq_allock (some 9) 27 (tqT (false, noP, noP)) (zero_pq _) (HG.out.h.pick [1, 2, 3] _ rfl) ?_
       generalize v602.alloc _ = u603 at *
       generalize v602.heap.size = g6 at *
       refine sq_done ?_
       refine m_maskk (M' := 95) ?_
       refine m_seqi (f := 1) [(false, 5)] 127 (HG.out.h.pick [1, 2, 3] _ rfl) ?_
       refine sq_ck (some 31) Tryz.func9 (HIm.out _) ?_
       rintro e v604 ⟨rfl, bw⟩
       replace HG := Lib.hid (HG.out.on bw)
       clear bw
       refine ⟨_, rfl, (HG.out.h.pick [1, 2, 3] _ rfl), ?_⟩
       refine sq_done ?_
       refine m_maskk (M' := 127) ?_
       refine m_seqi (f := 0) [(false, 7)] 255 (HG.out.h.pick [1, 2, 3] _ rfl) ?_
       have HN := Lib.hid (HG.out.at 0 rfl)
       replace HG : Hid (Blks w (v604.setRow g6 (tqT r)) [(g6, tqT r, 27), (g5, tqT r, 27), ((w.heap.size + 1), tqT a2, 44), (w.heap.size, tqT a1, 44)]) := Lib.hid (HG.out.put 0 rfl (tqT r))
       refine sq_stk 27 g6 (tqT r) HN.out Tryz.infoPq rfl (HG.out.h.pick [1, 2, 3] _ rfl) ?_
       clear HN
       generalize World.setRow _ g6 _ = t605 at *
       refine sq_done ?_
       refine m_maskk (M' := 255) ?_
       refine m_donei { tmps := List.toArray ([.int .i64 a0, .agg (tqT a1), .agg (tqT a2), undef, .pointer (some ⟨w.heap.size, 0, none⟩), .pointer (some ⟨(w.heap.size + 1), 0, none⟩), .bool false, .int .i64 zz3, .pointer (some ⟨g5, 0, none⟩), .pointer (some ⟨g6, 0, none⟩), .agg (tqT a1), .int .i64 1048576, .int .i64 zz1, .int .i64 zz1, .bool false, .agg (tqT a2), .int .i64 zz1, .int .i64 zz3, .int .i64 zz3, .bool false, .int .i64 a0, .agg (tqT a1), .agg (tqT a1), .agg (tqT a2), .agg (tqT a2), .agg (tqT r), .int .i64 a0, .agg (tqT a1), .agg (tqT a1), .agg (tqT a2), .agg (tqT a2), .agg (tqT r), undef, undef, undef, undef]), defers := [] } ?_
       exact ⟨rfl, g6, rfl, HG.out.sub [0, 1, 2, 3] _ rfl (by decide)⟩
     ·replace HG := Lib.hid (HG.out.new (tqT (false, noP, noP)) 27)
      refine sq_allock (some 9) 27 (tqT (false, noP, noP)) (zero_pq _) (HG.out.h.pick [1, 2, 3] _ rfl) ?_
      generalize v601.alloc _ = u602 at *
      generalize v601.heap.size = g6 at *
      refine sq_done ?_
      refine m_maskk (M' := 79) ?_
      refine m_seqi (f := 2) [(false, 4)] 95 (HG.out.h.pick [1, 2, 3] _ rfl) ?_
      refine sq_ck (some 30) Tryz.func20 (to_laws_PairPoint a2 _) ?_
      rintro e v603 ⟨rfl, bw⟩
      replace HG := Lib.hid (HG.out.on bw)
      clear bw
      refine ⟨_, rfl, (HG.out.h.pick [1, 2, 3] _ rfl), ?_⟩
      refine sq_done ?_
      refine m_maskk (M' := 95) ?_
      refine m_seqi (f := 1) [(false, 5)] 127 (HG.out.h.pick [1, 2, 3] _ rfl) ?_
      refine sq_ck (some 31) Tryz.func9 (HIm.out _) ?_
      rintro e v604 ⟨rfl, bw⟩
      replace HG := Lib.hid (HG.out.on bw)
      clear bw
      refine ⟨_, rfl, (HG.out.h.pick [1, 2, 3] _ rfl), ?_⟩
      refine sq_done ?_
      refine m_maskk (M' := 127) ?_
      refine m_seqi (f := 0) [(false, 7)] 255 (HG.out.h.pick [1, 2, 3] _ rfl) ?_
      have HN := Lib.hid (HG.out.at 0 rfl)
      replace HG : Hid (Blks w (v604.setRow g6 (tqT r)) [(g6, tqT r, 27), (g5, tqT r, 27), ((w.heap.size + 1), tqT a2, 44), (w.heap.size, tqT a1, 44)]) := Lib.hid (HG.out.put 0 rfl (tqT r))
      refine sq_stk 27 g6 (tqT r) HN.out Tryz.infoPq rfl (HG.out.h.pick [1, 2, 3] _ rfl) ?_
      clear HN
      generalize World.setRow _ g6 _ = t605 at *
      refine sq_done ?_
      refine m_maskk (M' := 255) ?_
      refine m_donei { tmps := List.toArray ([.int .i64 a0, .agg (tqT a1), .agg (tqT a2), undef, .pointer (some ⟨w.heap.size, 0, none⟩), .pointer (some ⟨(w.heap.size + 1), 0, none⟩), .bool false, .int .i64 zz3, .pointer (some ⟨g5, 0, none⟩), .pointer (some ⟨g6, 0, none⟩), .agg (tqT a1), .int .i64 1048576, .int .i64 zz1, .int .i64 zz1, .bool false, .agg (tqT a2), .int .i64 zz1, .int .i64 zz3, .int .i64 zz3, .bool false, .int .i64 a0, .agg (tqT a1), .agg (tqT a1), .agg (tqT a2), .agg (tqT a2), .agg (tqT r), .int .i64 a0, .agg (tqT a1), .agg (tqT a1), .agg (tqT a2), .agg (tqT a2), .agg (tqT r), undef, undef, undef, undef]), defers := [] } ?_
      exact ⟨rfl, g6, rfl, HG.out.sub [0, 1, 2, 3] _ rfl (by decide)⟩
    ·replace HG := Lib.hid (HG.out.new (tqT (false, noP, noP)) 27)
     refine sq_allock (some 9) 27 (tqT (false, noP, noP)) (zero_pq _) (HG.out.h.pick [1, 2, 3] _ rfl) ?_
     generalize v600.alloc _ = u601 at *
     generalize v600.heap.size = g6 at *
     refine sq_done ?_
     refine m_maskk (M' := 75) ?_
     refine m_seqi (f := 3) [(false, 2)] 79 (HG.out.h.pick [1, 2, 3] _ rfl) ?_
     refine sq_ck (some 28) Tryz.func20 (to_laws_PairPoint a1 _) ?_
     rintro e v602 ⟨rfl, bw⟩
     replace HG := Lib.hid (HG.out.on bw)
     clear bw
     refine ⟨_, rfl, (HG.out.h.pick [1, 2, 3] _ rfl), ?_⟩
     refine sq_done ?_
     refine m_maskk (M' := 79) ?_
     refine m_seqi (f := 2) [(false, 4)] 95 (HG.out.h.pick [1, 2, 3] _ rfl) ?_
     refine sq_ck (some 30) Tryz.func20 (to_laws_PairPoint a2 _) ?_
     rintro e v603 ⟨rfl, bw⟩
     replace HG := Lib.hid (HG.out.on bw)
     clear bw
     refine ⟨_, rfl, (HG.out.h.pick [1, 2, 3] _ rfl), ?_⟩
     refine sq_done ?_
     refine m_maskk (M' := 95) ?_
     refine m_seqi (f := 1) [(false, 5)] 127 (HG.out.h.pick [1, 2, 3] _ rfl) ?_
     refine sq_ck (some 31) Tryz.func9 (HIm.out _) ?_
     rintro e v604 ⟨rfl, bw⟩
     replace HG := Lib.hid (HG.out.on bw)
     clear bw
     refine ⟨_, rfl, (HG.out.h.pick [1, 2, 3] _ rfl), ?_⟩
     refine sq_done ?_
     refine m_maskk (M' := 127) ?_
     refine m_seqi (f := 0) [(false, 7)] 255 (HG.out.h.pick [1, 2, 3] _ rfl) ?_
     have HN := Lib.hid (HG.out.at 0 rfl)
     replace HG : Hid (Blks w (v604.setRow g6 (tqT r)) [(g6, tqT r, 27), (g5, tqT r, 27), ((w.heap.size + 1), tqT a2, 44), (w.heap.size, tqT a1, 44)]) := Lib.hid (HG.out.put 0 rfl (tqT r))
     refine sq_stk 27 g6 (tqT r) HN.out Tryz.infoPq rfl (HG.out.h.pick [1, 2, 3] _ rfl) ?_
     clear HN
     generalize World.setRow _ g6 _ = t605 at *
     refine sq_done ?_
     refine m_maskk (M' := 255) ?_
     refine m_donei { tmps := List.toArray ([.int .i64 a0, .agg (tqT a1), .agg (tqT a2), undef, .pointer (some ⟨w.heap.size, 0, none⟩), .pointer (some ⟨(w.heap.size + 1), 0, none⟩), .bool false, .int .i64 zz3, .pointer (some ⟨g5, 0, none⟩), .pointer (some ⟨g6, 0, none⟩), .agg (tqT a1), .int .i64 1048576, .int .i64 zz1, .int .i64 zz1, .bool false, .agg (tqT a2), .int .i64 zz1, .int .i64 zz3, .int .i64 zz3, .bool false, .int .i64 a0, .agg (tqT a1), .agg (tqT a1), .agg (tqT a2), .agg (tqT a2), .agg (tqT r), .int .i64 a0, .agg (tqT a1), .agg (tqT a1), .agg (tqT a2), .agg (tqT a2), .agg (tqT r), undef, undef, undef, undef]), defers := [] } ?_
     exact ⟨rfl, g6, rfl, HG.out.sub [0, 1, 2, 3] _ rfl (by decide)⟩
   rintro e a t6 ⟨rfl, g6, rfl, hG⟩
   replace HG := Lib.hid hG
   clear hG
   refine ‹∀ a w, Code.wp _ _ _ a w → _› _ _ ?_
   go_upto_region 10 with (fail)
   replace HS : Hid (Held t6 [(g6, tqT r, 27), (g5, tqT r, 27), ((w.heap.size + 1), tqT a2, 44), (w.heap.size, tqT a1, 44)]) := Lib.hid (HG.out.h.pick [0, 1, 2, 3] _ rfl)
   refine wp_region_linek (S := fun w' => Held w' [(g6, tqT r, 27), (g5, tqT r, 27), ((w.heap.size + 1), tqT a2, 44), (w.heap.size, tqT a1, 44)]) [(true, 0), (true, 1), (false, 2), (true, 3)] HS.out ?_
   refine sq_ldk (some 32) (ld_mid' (D := tqT r) (k := 0) Tryz.underlying27 rfl Tryz.infoPq (.head _) rfl) ?_
   refine sq_ldk (some 33) (ld_mid' (D := tqT r) (k := 0) Tryz.underlying27 rfl Tryz.infoPq (.tail _ (.head _)) rfl) ?_
   refine sq_ck (some 34) Tryz.func21 (same_impl_PairPoint r _) ?_
   rintro e v7 ⟨rfl, bw⟩
   replace HG := Lib.hid (HG.out.on bw)
   clear bw
   refine ⟨_, rfl, (HG.out.h.pick [0, 1, 2, 3] _ rfl), ?_⟩
   refine sq_psk [(3, .bool false)] ?_
   refine sq_fink { tmps := List.toArray ([.int .i64 a0, .agg (tqT a1), .agg (tqT a2), undef, .pointer (some ⟨w.heap.size, 0, none⟩), .pointer (some ⟨(w.heap.size + 1), 0, none⟩), .bool false, .int .i64 zz3, .pointer (some ⟨g5, 0, none⟩), .pointer (some ⟨g6, 0, none⟩), .agg (tqT a1), .int .i64 1048576, .int .i64 zz1, .int .i64 zz1, .bool false, .agg (tqT a2), .int .i64 zz1, .int .i64 zz3, .int .i64 zz3, .bool false, .int .i64 a0, .agg (tqT a1), .agg (tqT a1), .agg (tqT a2), .agg (tqT a2), .agg (tqT r), .int .i64 a0, .agg (tqT a1), .agg (tqT a1), .agg (tqT a2), .agg (tqT a2), .agg (tqT r), .agg (tqT r), .agg (tqT r), .bool true, .bool false]), defers := [] } ?_
   refine ‹∀ a w, Code.wp _ _ _ a w → _› _ _ ?_
   go_upto_region 12 with (fail)
   replace HS : Hid (Held v7 [(g6, tqT r, 27), (g5, tqT r, 27), ((w.heap.size + 1), tqT a2, 44), (w.heap.size, tqT a1, 44)]) := Lib.hid (HG.out.h.pick [0, 1, 2, 3] _ rfl)
   refine wp_region_linek (S := fun w' => Held w' [(g6, tqT r, 27), (g5, tqT r, 27), ((w.heap.size + 1), tqT a2, 44), (w.heap.size, tqT a1, 44)]) [(true, 0)] HS.out ?_
   refine sq_psk [(0, .bool true)] ?_
   refine sq_done ?_
   refine ‹∀ a w, Code.wp _ Code.ret _ a w → _› _ _ ?_
   refine wp_ret ?_
   try refine wk_block ?_
   try refine wk_then ?_
   exact wk_ret (v := .bool true) Tryz.results4 (by kernel_rfl) (by kernel_rfl) ⟨rfl, HG.out.b⟩

theorem own : ownKnob Tryz.prog.godebug = none := by kernel_rfl
theorem laidOut : laidOutB Tryz.prog = true := by kernel_rfl
set_option maxRecDepth 100000 in
theorem lifted (os : Os) (started : os.Started) (H : Type) (enc : TypeId × Value → H) :
    ReturnsInHanded {} Tryz.checked os 4 .any (Rows.fnExactAddPairPointSpec.pre6 enc Tryz.prog Tryz.f4 Rows.fnExactAddPairPointRow.domain false) (Rows.fnExactAddPairPointSpec.post enc Tryz.prog Tryz.f4 false true false false) := by
  refine returnsInHanded_of_change (C := Tryz.checked) own started (by kernel_rfl) Tryz.func4
    (ChangeSpec.witness6 (enc := enc) (C := Tryz.checked) false ⟨#[], #[.int .i64 0, .agg #[.bool false, .string ByteArray.empty, .string ByteArray.empty, .string ByteArray.empty, .string ByteArray.empty], .agg #[.bool false, .string ByteArray.empty, .string ByteArray.empty, .string ByteArray.empty, .string ByteArray.empty]], []⟩ 8 (by kernel_rfl) (by kernel_rfl) (by kernel_rfl) (by kernel_rfl)) ?_
  intro W base args ds gs before hval0 hW hcnd _
  have hval : ∀ (j : Nat) t v, Tryz.f4.params[j]? = some t → args[j]? = some v → Value.okWide Tryz.prog W .any base t v := hval0
  have hW' := hW
  obtain ⟨p, q, hA0, hV, rfl, hfz, hnd⟩ := hW
  have hA : DataW.TrodAll enc Tryz.prog W 0 (fun _ => true) true Tryz.f4.params.toList args.toList ds p := hA0
  rw [Tryz.params4] at hA hval
  obtain ⟨v0, vs0, d0, ds0, p0, q0, hargs, rfl, rfl, h0, r0⟩ := trodAll_cons hA
  obtain ⟨v1, vs1, d1, ds1, p1, q1, rfl, rfl, rfl, h1, r1⟩ := trodAll_cons r0
  obtain ⟨v2, vs2, d2, ds2, p2, q2, rfl, rfl, rfl, h2, r2⟩ := trodAll_cons r1
  obtain ⟨rfl, rfl, rfl⟩ := trodAll_nil r2
  obtain rfl : args = #[v0, v1, v2] := by cases args; simp_all
  obtain ⟨rfl, rfl⟩ := trodVars_none hV
  obtain ⟨a0, rfl, rfl, rfl, w0⟩ := open_int Tryz.underlying3 (hval 0 3 v0 rfl rfl) h0
  obtain ⟨a1, rfl, rfl, rfl, w1⟩ := open_laws_PairPoint (hval 1 44 v1 rfl rfl) h1
  obtain ⟨a2, rfl, rfl, rfl, w2⟩ := open_laws_PairPoint (hval 2 44 v2 rfl rfl) h2
  clear hA0 hval0
  simp only [List.append_nil] at hW'
  refine (walk a0 a1 a2 W w0 w1 w2).mono fun e W' ⟨he, bel⟩ => ?_
  subst he
  exact ⟨_, rfl, _, _, _, [], [], [], hW', trodAll_mk1 (shut_bool Tryz.underlying4 _), (trodAll_cons_mk (shut_int Tryz.underlying3 w0) (trodAll_cons_mk (shut_laws_PairPoint w1) (trodAll_cons_mk (shut_laws_PairPoint w2) trodAll_mk0))), rfl, bel.frame _, fun h => by cases h⟩

theorem over : Rows.fnExactAddPairPointRow.holds Tryz.pinned (OpenSpec.ofChange Rows.fnExactAddPairPointSpec) :=
  OpenClaim.holds_of_wide 4 Tryz.f4 rfl rfl rfl rfl rfl rfl rfl ⟨rfl, rfl, rfl, rfl, rfl⟩ rfl rfl rfl rfl rfl (by kernel_rfl) Tryz.func4 (by kernel_rfl)
    (of_decide_eq_true (by kernel_rfl)) (by unfold Func.isWrapper; first | (rw [if_pos (by decide +kernel)]; kernel_rfl) | (rw [if_neg (by decide +kernel)]; exact ⟨rfl, rfl⟩))
    (fun os started H enc _ => lifted os started H enc)

theorem proved : Rows.FnExactAddPairPointSaid := over
end Go.Proofs.YtdajgcgliidjbaaGreat.fnExactAddPairPoint

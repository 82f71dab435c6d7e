import Derived.Test.YtdajgcgliidjbaaZQb
namespace Go.Proofs.Ytdajgcgliidjbaa
open Go.RowKit
set_option maxRecDepth 8000 in
set_option maxHeartbeats 4000000 in
theorem samePairPoint_i (a b : Tq) (w : World) : Calls Try.prog 17 #[.agg (tqT a), .agg (tqT b)] w fun e w' => e = .returned (.bool (decide (a = b))) ∧ Below w.heap.size w w' := by
  obtain ⟨bo, hb⟩ : ∃ bo, decide (a = b) = bo := ⟨_, rfl⟩
  have HD := Lib.hid hb
  rw [hb]
  clear hb
  have HG := Lib.hid (blks2 w (tqT a) (tqT b) 30 30)
  go_enter Try.func17, Try.ntmps17
  go_upto_region 1 with (fail)
  generalize (w.alloc _).alloc _ = w0 at *
  have HS := Lib.hid HG.out.h
  replace HS : Hid (Held w0 [((w.heap.size + 1), tqT b, 30), (w.heap.size, tqT a, 30)]) := Lib.hid (HG.out.h.pick [0, 1] _ rfl)
  refine wp_region_line (S := fun w' => Held w' [((w.heap.size + 1), tqT b, 30), (w.heap.size, tqT a, 30)]) [(true, 0), (true, 1), (true, 2), (true, 3)] (by kernel_rfl) (by kernel_rfl) HS.out ?_
  refine sq_ld (some 5) (ld_mid' (D := tqT a) (k := 0) Try.underlying30 rfl Try.infoPq (.tail _ (.head _)) rfl) (by kernel_rfl) ?_
  refine sq_ld (some 6) (ld_mid' (D := tqT b) (k := 0) Try.underlying30 rfl Try.infoPq (.head _) rfl) (by kernel_rfl) ?_
  refine sq_take (some 7) (.bool bo) (by kernel_rfl) (yields_eqPq (by kernel_rfl) (.tmp 5) (.tmp 6) (by kernel_rfl) a b bo HD.out (by kernel_rfl) (by kernel_rfl)) ?_
  refine sq_ps [(3, .bool bo)] (by kernel_rfl) ?_
  refine sq_done ?_
  refine (by assumption : ∀ (a : Act) (w_1 : World), Code.wp _ Code.ret _ a w_1 → _) _ _ ?_
  refine wp_ret ?_
  try refine wk_block ?_
  try refine wk_then ?_
  exact wk_ret (v := .bool bo) Try.results17 (by kernel_rfl) (by kernel_rfl) ⟨rfl, HG.out.b⟩
set_option maxRecDepth 8000 in
set_option maxHeartbeats 4000000 in
theorem samePairPoint_any (a b : Tq) (w : World) : Calls Try.prog 16 #[.agg (tqT a), .agg (tqT b)] w fun e w' => e = .returned (.bool (decide (a = b))) ∧ Below w.heap.size w w' := by
  obtain ⟨bo, hb⟩ : ∃ bo, decide (a = b) = bo := ⟨_, rfl⟩
  have HD := Lib.hid hb
  rw [hb]
  clear hb
  have HG := Lib.hid (blks2 w (tqT a) (tqT b) 30 30)
  go_enter Try.func16, Try.ntmps16
  go_upto_region 1 with (fail)
  generalize (w.alloc _).alloc _ = w0 at *
  have HS := Lib.hid HG.out.h
  replace HS : Hid (Held w0 [((w.heap.size + 1), tqT b, 30), (w.heap.size, tqT a, 30)]) := Lib.hid (HG.out.h.pick [0, 1] _ rfl)
  refine wp_region_line (S := fun w' => Held w' [((w.heap.size + 1), tqT b, 30), (w.heap.size, tqT a, 30)]) [(true, 0), (true, 1), (true, 2), (true, 3)] (by kernel_rfl) (by kernel_rfl) HS.out ?_
  refine sq_ld (some 5) (ld_mid' (D := tqT a) (k := 0) Try.underlying30 rfl Try.infoPq (.tail _ (.head _)) rfl) (by kernel_rfl) ?_
  refine sq_ld (some 6) (ld_mid' (D := tqT b) (k := 0) Try.underlying30 rfl Try.infoPq (.head _) rfl) (by kernel_rfl) ?_
  refine sq_take (some 7) (.bool bo) (by kernel_rfl) (yields_eqPq (by kernel_rfl) (.tmp 5) (.tmp 6) (by kernel_rfl) a b bo HD.out (by kernel_rfl) (by kernel_rfl)) ?_
  refine sq_ps [(3, .bool bo)] (by kernel_rfl) ?_
  refine sq_done ?_
  refine (by assumption : ∀ (a : Act) (w_1 : World), Code.wp _ Code.ret _ a w_1 → _) _ _ ?_
  refine wp_ret ?_
  try refine wk_block ?_
  try refine wk_then ?_
  exact wk_ret (v := .bool bo) Try.results16 (by kernel_rfl) (by kernel_rfl) ⟨rfl, HG.out.b⟩
end Go.Proofs.Ytdajgcgliidjbaa

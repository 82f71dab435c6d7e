import Derived.Test.YtdajgcgliidjbaaZQb
import Derived.Test.YtdajgcgliidjbaaZPLaw
import Derived.Test.YtdajgcgliidjbaaVRoot
import Derived.Test.YtdajgcgliidjbaaZPoint
import Derived.Test.YtdajgcgliidjbaaUInvs
import Derived.Test.YtdajgcgliidjbaaQMath
import Derived.Deep.LoopGhost
import Derived.Test.YtdajgcgliidjbaaYSpec
import Derived.Test.YtdajgcgliidjbaaUOps
import Derived.Test.YtdajgcgliidjbaaILow
import Derived.Test.YtdajgcgliidjbaaXPairs
namespace Go.Proofs.Ytdajgcgliidjbaa
open Go.RowKit
def vP2 (q : Value × Value) : Array Value := #[q.1, q.2]
def ptE (q : Bool × (Value × Value) × (Value × Value)) : Array Value := #[.bool q.1, q.2.1.1, q.2.1.2, q.2.2.1, q.2.2.2]
theorem built_ptE (z : Bool) (x y : Value × Value) : Try.prog.built 49 [(0, .bool z), (1, .agg (vP2 x)), (2, .agg (vP2 y))] = some (ptE (z, x, y)) := built_10 z x.1 x.2 y.1 y.2
theorem in7_v (x : Pt) (w : World) (h1 : x.1.size ≤ 1000000) (h2 : x.2.size ≤ 1000000) : Calls Try.prog 23 #[.agg (aggT x)] w fun e w' => ∃ A1 n1 c1 A2 n2 c2, e = .returned (.agg (vP2 (.slice A1 n1 c1, .slice A2 n2 c2))) ∧ RowX w' (.slice A1 n1 c1) (gV x.1) ∧ RowX w' (.slice A2 n2 c2) (gV x.2) ∧ Below w.heap.size w w' := by
  refine (in7_x x w h1 h2).mono ?_
  rintro e w' ⟨v, rfl, ⟨a, b, rfl, k1, k2⟩, bw⟩
  obtain ⟨A1, n1, c1, rfl⟩ := k1.shape
  obtain ⟨A2, n2, c2, rfl⟩ := k2.shape
  exact ⟨A1, n1, c1, A2, n2, c2, rfl, k1, k2, bw⟩
theorem in_v (s : ByteArray) (w : World) (h : s.size ≤ 1000000) : Calls Try.prog 24 #[.string s] w fun e w' => ∃ A n c, e = .returned (.slice A n c) ∧ RowX w' (.slice A n c) (gV s) ∧ Below w.heap.size w w' := by
  refine (in_x s w h).mono ?_
  rintro e w' ⟨v, rfl, k1, bw⟩
  obtain ⟨A1, n1, c1, rfl⟩ := k1.shape
  exact ⟨A1, n1, c1, rfl, k1, bw⟩
theorem PtX.setRow {w : World} {v : Value} {Q : P2} {g : Nat} {C C' : Array Value} {t : TypeId} (h : PtX w v Q) (hg : w.heap[g]? = some (.cells C t (0, 0))) (ht : t ≠ 3) : PtX (w.setRow g C') v Q := by
  cases Q with
  | none => exact h
  | some A =>
    obtain ⟨xa, xb, ya, yb, e, h1, h2, h3, h4⟩ := h
    exact ⟨xa, xb, ya, yb, e, RowX.setRow h1 hg ht, RowX.setRow h2 hg ht, RowX.setRow h3 hg ht, RowX.setRow h4 hg ht⟩
def Sm4 (q : Tq) : Prop := (q.2.1.1.size ≤ 1000000 ∧ q.2.1.2.size ≤ 1000000) ∧ (q.2.2.1.size ≤ 1000000 ∧ q.2.2.2.size ≤ 1000000)
set_option maxRecDepth 8000 in
set_option maxHeartbeats 4000000 in
theorem in11_x (q : Tq) (w : World) (h : Sm4 q) : Calls Try.prog 22 #[.agg (tqT q)] w fun e w' => ∃ A1 n1 c1 A2 n2 c2 A3 n3 c3 A4 n4 c4, e = .returned (.agg (ptE (q.1, (.slice A1 n1 c1, .slice A2 n2 c2), (.slice A3 n3 c3, .slice A4 n4 c4)))) ∧ RowX w' (.slice A1 n1 c1) (gV q.2.1.1) ∧ RowX w' (.slice A2 n2 c2) (gV q.2.1.2) ∧ RowX w' (.slice A3 n3 c3) (gV q.2.2.1) ∧ RowX w' (.slice A4 n4 c4) (gV q.2.2.2) ∧ Below w.heap.size w w' := by
  have HI := Lib.hid h
  clear h
  unfold Sm4 at HI
  obtain ⟨z, x, y⟩ := q
  simp only at HI
  have HG := Lib.hid (blks2 w (tqT (z, x, y)) (#[.bool false, .slice none 0 0, .slice none 0 0, .slice none 0 0, .slice none 0 0]) 30 49)
  go_enter Try.func22, Try.ntmps22
  go_upto_region 1 with (fail)
  generalize (w.alloc _).alloc _ = w0 at *
  replace HG : Hid (Blks w w0 [(w.heap.size + 1, ptE (false, (.slice none 0 0, .slice none 0 0), (.slice none 0 0, .slice none 0 0)), 49), (w.heap.size, tqT (z, x, y), 30)]) := HG
  have HS := Lib.hid HG.out.h
  replace HS : Hid (Held w0 [(w.heap.size, tqT (z, x, y), 30)]) := Lib.hid (HG.out.h.pick [1] _ rfl)
  replace HG := Lib.hid HG.out.drew
  replace HS := Lib.hid HS.out.drew
  refine sq_go (S := fun w' => Held w' [(w.heap.size, tqT (z, x, y), 30)]) [(true, 0), (true, 1), (true, 2), (true, 3), (true, 5), (true, 6), (false, 4), (false, 7), (true, 8), (false, 9)] (by kernel_rfl) (fun d _ _ _ _ h => by cases d <;> exact h) HS.out ?_
  refine sq_ps [(0, .pointer (some ⟨w.heap.size, 0, none⟩))] (by kernel_rfl) ?_
  refine sq_ld (some 4) (wk_b (.head _) (k := 0) rfl) (by kernel_rfl) ?_
  refine sq_ps [(2, .pointer (some ⟨w.heap.size, 1, none⟩))] (by kernel_rfl) ?_
  refine sq_ld (some 6) (ld_mid' (D := aggT x) (k := 1) Try.underlying28 rfl Try.infoP (.head _) rfl) (by kernel_rfl) ?_
  refine sq_ps [(5, .pointer (some ⟨w.heap.size, 3, none⟩))] (by kernel_rfl) ?_
  refine sq_ld (some 9) (ld_mid' (D := aggT y) (k := 3) Try.underlying28 rfl Try.infoP (.head _) rfl) (by kernel_rfl) ?_
  refine sq_c (some 7) Try.func23 (in7_v x _ HI.out.1.1 HI.out.1.2) (by kernel_rfl) ?_
  rintro e v1 ⟨Ax1, nx1, cx1, Ax2, nx2, cx2, rfl, k1, k2, bw⟩
  replace HG := Lib.hid (HG.out.on bw)
  clear bw
  have Xx1 := Lib.hid k1
  have Xx2 := Lib.hid k2
  clear k1 k2
  refine ⟨_, rfl, (HG.out.h.pick [1] _ rfl), ?_⟩
  refine sq_c (some 10) Try.func23 (in7_v y _ HI.out.2.1 HI.out.2.2) (by kernel_rfl) ?_
  rintro e v2 ⟨Ay1, ny1, cy1, Ay2, ny2, cy2, rfl, k1, k2, bw⟩
  replace HG := Lib.hid (HG.out.on bw)
  replace Xx1 := Lib.hid (Xx1.out.below bw)
  replace Xx2 := Lib.hid (Xx2.out.below bw)
  clear bw
  have Xy1 := Lib.hid k1
  have Xy2 := Lib.hid k2
  clear k1 k2
  refine ⟨_, rfl, (HG.out.h.pick [1] _ rfl), ?_⟩
  refine sq_pure (some 11) (.agg (ptE (z, (.slice Ax1 nx1 cx1, .slice Ax2 nx2 cx2), (.slice Ay1 ny1 cy1, .slice Ay2 ny2 cy2)))) (by kernel_rfl) (by kernel_rfl) (held_build 49 #[(0, (.tmp 4)), (1, (.tmp 7)), (2, (.tmp 10))] (by kernel_rfl) _ (by kernel_rfl) _ (built_ptE _ _ _)) ?_
  have HN := Lib.hid (HG.out.at 0 rfl)
  replace HG : Hid (Blks w (v2.setRow (w.heap.size + 1) (ptE (z, (.slice Ax1 nx1 cx1, .slice Ax2 nx2 cx2), (.slice Ay1 ny1 cy1, .slice Ay2 ny2 cy2)))) [((w.heap.size + 1), ptE (z, (.slice Ax1 nx1 cx1, .slice Ax2 nx2 cx2), (.slice Ay1 ny1 cy1, .slice Ay2 ny2 cy2)), 49), (w.heap.size, tqT (z, x, y), 30)]) := Lib.hid (HG.out.put 0 rfl (ptE (z, (.slice Ax1 nx1 cx1, .slice Ax2 nx2 cx2), (.slice Ay1 ny1 cy1, .slice Ay2 ny2 cy2))))
  replace Xx1 := Lib.hid (Xx1.out.setRow (C' := ptE (z, (.slice Ax1 nx1 cx1, .slice Ax2 nx2 cx2), (.slice Ay1 ny1 cy1, .slice Ay2 ny2 cy2))) HN.out (by decide))
  replace Xx2 := Lib.hid (Xx2.out.setRow (C' := ptE (z, (.slice Ax1 nx1 cx1, .slice Ax2 nx2 cx2), (.slice Ay1 ny1 cy1, .slice Ay2 ny2 cy2))) HN.out (by decide))
  replace Xy1 := Lib.hid (Xy1.out.setRow (C' := ptE (z, (.slice Ax1 nx1 cx1, .slice Ax2 nx2 cx2), (.slice Ay1 ny1 cy1, .slice Ay2 ny2 cy2))) HN.out (by decide))
  replace Xy2 := Lib.hid (Xy2.out.setRow (C' := ptE (z, (.slice Ax1 nx1 cx1, .slice Ax2 nx2 cx2), (.slice Ay1 ny1 cy1, .slice Ay2 ny2 cy2))) HN.out (by decide))
  refine sq_st 49 (w.heap.size + 1) (ptE (z, (.slice Ax1 nx1 cx1, .slice Ax2 nx2 cx2), (.slice Ay1 ny1 cy1, .slice Ay2 ny2 cy2))) HN.out Try.infoPt10 rfl (by kernel_rfl) (HG.out.h.pick [1] _ rfl) (by kernel_rfl) ?_
  clear HN
  generalize World.setRow _ (w.heap.size + 1) _ = t3 at *
  refine sq_done ?_
  refine (by assumption : ∀ (a : Act) (w_1 : World), Code.wp _ Code.ret _ a w_1 → _) _ _ ?_
  refine wp_ret ?_
  try refine wk_block ?_
  try refine wk_then ?_
  exact bodyPost_ret (results_cell_row Try.results22 _ _ (w.heap.size + 1) _ _ _ _ (by kernel_rfl) (HG.out.at 0 rfl) Try.underlying49 rfl Try.infoPt10) (by kernel_rfl) ⟨Ax1, nx1, cx1, Ax2, nx2, cx2, Ay1, ny1, cy1, Ay2, ny2, cy2, rfl, Xx1.out, Xx2.out, Xy1.out, Xy2.out, HG.out.b⟩
theorem in11_pt {w : World} {q : Tq} {A1 A2 A3 A4 : Option Addr} {n1 c1 n2 c2 n3 c3 n4 c4 : Nat} (h1 : RowX w (.slice A1 n1 c1) (gV q.2.1.1)) (h2 : RowX w (.slice A2 n2 c2) (gV q.2.1.2)) (h3 : RowX w (.slice A3 n3 c3) (gV q.2.2.1)) (h4 : RowX w (.slice A4 n4 c4) (gV q.2.2.2)) : PtX w (.agg (ptE (q.1, (.slice A1 n1 c1, .slice A2 n2 c2), (.slice A3 n3 c3, .slice A4 n4 c4)))) (val4 q) := by
  obtain ⟨z, x, y⟩ := q
  cases z with
  | true => exact ⟨_, _, _, _, _, _, _, _, _, _, _, _, rfl⟩
  | false => exact ⟨_, _, _, _, rfl, h1, h2, h3, h4⟩
theorem pair_sm {id : Int} {q : Tq} (h : pairPtB id q = true) : Sm4 q := by
  have F := pair_fit h
  have g : ∀ {s : ByteArray}, okG s = true → s.size ≤ 1000000 := fun {s} k => by have := okG_size k; omega
  exact ⟨⟨g F.x.1, g F.x.2⟩, ⟨g F.y.1, g F.y.2⟩⟩
set_option maxRecDepth 8000 in
set_option maxHeartbeats 4000000 in
theorem out11_x {w : World} {v : Value} {Q : P2} (h : PtX w v Q) (hb : ∀ A, Q = some A → (A.1.1 < SM ∧ A.1.2 < SM) ∧ (A.2.1 < SM ∧ A.2.2 < SM)) : Calls Try.prog 31 #[v] w fun e w' => e = .returned (.agg (tqT (txt4 Q))) ∧ Below w.heap.size w w' := by
  cases Q with
  | none =>
    obtain ⟨A1, n1, c1, A2, n2, c2, A3, n3, c3, A4, n4, c4, rfl⟩ := h
    change Calls _ _ #[.agg (ptE (true, (.slice A1 n1 c1, .slice A2 n2 c2), (.slice A3 n3 c3, .slice A4 n4 c4)))] _ _
    clear hb
    unfold txt4 zeroQ
    have HG := Lib.hid (blks2 w (ptE (true, (.slice A1 n1 c1, .slice A2 n2 c2), (.slice A3 n3 c3, .slice A4 n4 c4))) (#[.bool false, .string ⟨#[]⟩, .string ⟨#[]⟩, .string ⟨#[]⟩, .string ⟨#[]⟩]) 49 30)
    go_enter Try.func31, Try.ntmps31
    go_upto_region 1 with (fail)
    generalize (w.alloc _).alloc _ = w0 at *
    replace HG : Hid (Blks w w0 [(w.heap.size + 1, tqT (false, noP, noP), 30), (w.heap.size, ptE (true, (.slice A1 n1 c1, .slice A2 n2 c2), (.slice A3 n3 c3, .slice A4 n4 c4)), 49)]) := HG
    have HS := Lib.hid HG.out.h
    replace HS : Hid (Held w0 [((w.heap.size + 1), tqT (false, noP, noP), 30), (w.heap.size, ptE (true, (.slice A1 n1 c1, .slice A2 n2 c2), (.slice A3 n3 c3, .slice A4 n4 c4)), 49)]) := Lib.hid (HG.out.h.pick [0, 1] _ rfl)
    refine wp_region_line (S := fun w' => Held w' [((w.heap.size + 1), tqT (false, noP, noP), 30), (w.heap.size, ptE (true, (.slice A1 n1 c1, .slice A2 n2 c2), (.slice A3 n3 c3, .slice A4 n4 c4)), 49)]) [(true, 0), (true, 1)] (by kernel_rfl) (by kernel_rfl) HS.out ?_
    refine sq_ps [(0, .pointer (some ⟨w.heap.size, 0, none⟩))] (by kernel_rfl) ?_
    refine sq_ld (some 4) (wk_b (.tail _ (.head _)) (k := 0) rfl) (by kernel_rfl) ?_
    refine sq_fin { tmps := List.toArray ([.agg (ptE (true, (.slice A1 n1 c1, .slice A2 n2 c2), (.slice A3 n3 c3, .slice A4 n4 c4))), .pointer (some ⟨w.heap.size, 0, none⟩), .pointer (some ⟨(w.heap.size + 1), 0, none⟩), .pointer (some ⟨w.heap.size, 0, none⟩), .bool true, undef, undef, undef, undef, undef, undef, undef, undef]), defers := [] } (by kernel_rfl) ?_
    refine (by assumption : ∀ (a : Act) (w_1 : World), Code.wp _ _ _ a w_1 → _) _ _ ?_
    go_upto_region 2 with (fail)
    replace HS : Hid (Held w0 [(w.heap.size, ptE (true, (.slice A1 n1 c1, .slice A2 n2 c2), (.slice A3 n3 c3, .slice A4 n4 c4)), 49)]) := Lib.hid (HG.out.h.pick [1] _ rfl)
    refine wp_region_line (S := fun w' => Held w' [(w.heap.size, ptE (true, (.slice A1 n1 c1, .slice A2 n2 c2), (.slice A3 n3 c3, .slice A4 n4 c4)), 49)]) [(true, 0), (false, 1)] (by kernel_rfl) (by kernel_rfl) HS.out ?_
    refine sq_pure (some 5) (.agg (tqT (true, noP, noP))) (by kernel_rfl) (by kernel_rfl) (held_build 30 #[(0, (.const (.bool true)))] (by kernel_rfl) _ (by kernel_rfl) _ (built_pq_z _)) ?_
    have HN := Lib.hid (HG.out.at 0 rfl)
    replace HG : Hid (Blks w (w0.setRow (w.heap.size + 1) (tqT (true, noP, noP))) [((w.heap.size + 1), tqT (true, noP, noP), 30), (w.heap.size, ptE (true, (.slice A1 n1 c1, .slice A2 n2 c2), (.slice A3 n3 c3, .slice A4 n4 c4)), 49)]) := Lib.hid (HG.out.put 0 rfl (tqT (true, noP, noP)))
    refine sq_st 30 (w.heap.size + 1) (tqT (true, noP, noP)) HN.out Try.infoPq rfl (by kernel_rfl) (HG.out.h.pick [1] _ rfl) (by kernel_rfl) ?_
    clear HN
    generalize World.setRow _ (w.heap.size + 1) _ = t1 at *
    refine sq_done ?_
    refine (by assumption : ∀ (a : Act) (w_1 : World), Code.wp _ Code.ret _ a w_1 → _) _ _ ?_
    refine wp_ret ?_
    try refine wk_block ?_
    try refine wk_then ?_
    exact bodyPost_ret (results_cell_row Try.results31 _ _ (w.heap.size + 1) _ _ _ _ (by kernel_rfl) (HG.out.at 0 rfl) Try.underlying30 rfl Try.infoPq) (by kernel_rfl) ⟨rfl, HG.out.b⟩
  | some A =>
    obtain ⟨a, b⟩ := A
    obtain ⟨xa, xb, ya, yb, rfl, h1, h2, h3, h4⟩ := h
    have X1 := Lib.hid h1
    have X2 := Lib.hid h2
    have X3 := Lib.hid h3
    have X4 := Lib.hid h4
    have HB := Lib.hid (hb _ rfl)
    obtain ⟨A1, n1, c1, rfl⟩ := h1.shape
    obtain ⟨A2, n2, c2, rfl⟩ := h2.shape
    obtain ⟨A3, n3, c3, rfl⟩ := h3.shape
    obtain ⟨A4, n4, c4, rfl⟩ := h4.shape
    change Calls _ _ #[.agg (ptE (false, (.slice A1 n1 c1, .slice A2 n2 c2), (.slice A3 n3 c3, .slice A4 n4 c4)))] _ _
    clear h1 h2 h3 h4 hb
    unfold txt4
    simp only at X1 X2 X3 X4 HB ⊢
    have HG := Lib.hid (blks2 w (ptE (false, (.slice A1 n1 c1, .slice A2 n2 c2), (.slice A3 n3 c3, .slice A4 n4 c4))) (#[.bool false, .string ⟨#[]⟩, .string ⟨#[]⟩, .string ⟨#[]⟩, .string ⟨#[]⟩]) 49 30)
    go_enter Try.func31, Try.ntmps31
    go_upto_region 1 with (fail)
    generalize (w.alloc _).alloc _ = w0 at *
    replace HG : Hid (Blks w w0 [(w.heap.size + 1, tqT (false, noP, noP), 30), (w.heap.size, ptE (false, (.slice A1 n1 c1, .slice A2 n2 c2), (.slice A3 n3 c3, .slice A4 n4 c4)), 49)]) := HG
    have HS := Lib.hid HG.out.h
    replace X1 := Lib.hid (X1.out.below HG.out.b)
    replace X2 := Lib.hid (X2.out.below HG.out.b)
    replace X3 := Lib.hid (X3.out.below HG.out.b)
    replace X4 := Lib.hid (X4.out.below HG.out.b)
    replace HS : Hid (Held w0 [((w.heap.size + 1), tqT (false, noP, noP), 30), (w.heap.size, ptE (false, (.slice A1 n1 c1, .slice A2 n2 c2), (.slice A3 n3 c3, .slice A4 n4 c4)), 49)]) := Lib.hid (HG.out.h.pick [0, 1] _ rfl)
    refine wp_region_line (S := fun w' => Held w' [((w.heap.size + 1), tqT (false, noP, noP), 30), (w.heap.size, ptE (false, (.slice A1 n1 c1, .slice A2 n2 c2), (.slice A3 n3 c3, .slice A4 n4 c4)), 49)]) [(true, 0), (true, 1)] (by kernel_rfl) (by kernel_rfl) HS.out ?_
    refine sq_ps [(0, .pointer (some ⟨w.heap.size, 0, none⟩))] (by kernel_rfl) ?_
    refine sq_ld (some 4) (wk_b (.tail _ (.head _)) (k := 0) rfl) (by kernel_rfl) ?_
    refine sq_fin { tmps := List.toArray ([.agg (ptE (false, (.slice A1 n1 c1, .slice A2 n2 c2), (.slice A3 n3 c3, .slice A4 n4 c4))), .pointer (some ⟨w.heap.size, 0, none⟩), .pointer (some ⟨(w.heap.size + 1), 0, none⟩), .pointer (some ⟨w.heap.size, 0, none⟩), .bool false, undef, undef, undef, undef, undef, undef, undef, undef]), defers := [] } (by kernel_rfl) ?_
    refine (by assumption : ∀ (a : Act) (w_1 : World), Code.wp _ _ _ a w_1 → _) _ _ ?_
    go_upto_region 3 with (fail)
    replace HS : Hid (Held w0 [(w.heap.size, ptE (false, (.slice A1 n1 c1, .slice A2 n2 c2), (.slice A3 n3 c3, .slice A4 n4 c4)), 49)]) := Lib.hid (HG.out.h.pick [1] _ rfl)
    replace HG := Lib.hid HG.out.drew
    replace X1 := Lib.hid (X1.out.below (belowD w0))
    replace X2 := Lib.hid (X2.out.below (belowD w0))
    replace X3 := Lib.hid (X3.out.below (belowD w0))
    replace X4 := Lib.hid (X4.out.below (belowD w0))
    replace HS := Lib.hid HS.out.drew
    refine sq_go (S := fun w' => Held w' [(w.heap.size, ptE (false, (.slice A1 n1 c1, .slice A2 n2 c2), (.slice A3 n3 c3, .slice A4 n4 c4)), 49)]) [(true, 0), (true, 1), (true, 3), (true, 4), (false, 2), (false, 5), (true, 6), (false, 7)] (by kernel_rfl) (fun d _ _ _ _ h => by cases d <;> exact h) HS.out ?_
    refine sq_ps [(0, .pointer (some ⟨w.heap.size, 1, none⟩))] (by kernel_rfl) ?_
    refine sq_ld (some 7) (ld_mid' (D := vP2 (.slice A1 n1 c1, .slice A2 n2 c2)) (k := 1) Try.underlying47 rfl Try.info7 (.head _) rfl) (by kernel_rfl) ?_
    refine sq_ps [(3, .pointer (some ⟨w.heap.size, 3, none⟩))] (by kernel_rfl) ?_
    refine sq_ld (some 10) (ld_mid' (D := vP2 (.slice A3 n3 c3, .slice A4 n4 c4)) (k := 3) Try.underlying47 rfl Try.info7 (.head _) rfl) (by kernel_rfl) ?_
    refine sq_c (some 8) Try.func48 (out7_x (v := .agg (vP2 (.slice A1 n1 c1, .slice A2 n2 c2))) ⟨_, _, rfl, X1.out, X2.out⟩ HB.out.1.1 HB.out.1.2) (by kernel_rfl) ?_
    rintro e v1 ⟨rfl, bw⟩
    replace HG := Lib.hid (HG.out.on bw)
    replace X1 := Lib.hid (X1.out.below bw)
    replace X2 := Lib.hid (X2.out.below bw)
    replace X3 := Lib.hid (X3.out.below bw)
    replace X4 := Lib.hid (X4.out.below bw)
    clear bw
    refine ⟨_, rfl, (HG.out.h.pick [1] _ rfl), ?_⟩
    refine sq_c (some 11) Try.func48 (out7_x (v := .agg (vP2 (.slice A3 n3 c3, .slice A4 n4 c4))) ⟨_, _, rfl, X3.out, X4.out⟩ HB.out.2.1 HB.out.2.2) (by kernel_rfl) ?_
    rintro e v2 ⟨rfl, bw⟩
    replace HG := Lib.hid (HG.out.on bw)
    replace X1 := Lib.hid (X1.out.below bw)
    replace X2 := Lib.hid (X2.out.below bw)
    replace X3 := Lib.hid (X3.out.below bw)
    replace X4 := Lib.hid (X4.out.below bw)
    clear bw
    refine ⟨_, rfl, (HG.out.h.pick [1] _ rfl), ?_⟩
    refine sq_pure (some 12) (.agg (tqT (false, (txtP a), (txtP b)))) (by kernel_rfl) (by kernel_rfl) (held_build 30 #[(1, (.tmp 8)), (2, (.tmp 11))] (by kernel_rfl) _ (by kernel_rfl) _ (built_pq2 _ _)) ?_
    have HN := Lib.hid (HG.out.at 0 rfl)
    replace HG : Hid (Blks w (v2.setRow (w.heap.size + 1) (tqT (false, (txtP a), (txtP b)))) [((w.heap.size + 1), tqT (false, (txtP a), (txtP b)), 30), (w.heap.size, ptE (false, (.slice A1 n1 c1, .slice A2 n2 c2), (.slice A3 n3 c3, .slice A4 n4 c4)), 49)]) := Lib.hid (HG.out.put 0 rfl (tqT (false, (txtP a), (txtP b))))
    replace X1 := Lib.hid (X1.out.setRow (C' := tqT (false, (txtP a), (txtP b))) HN.out (by decide))
    replace X2 := Lib.hid (X2.out.setRow (C' := tqT (false, (txtP a), (txtP b))) HN.out (by decide))
    replace X3 := Lib.hid (X3.out.setRow (C' := tqT (false, (txtP a), (txtP b))) HN.out (by decide))
    replace X4 := Lib.hid (X4.out.setRow (C' := tqT (false, (txtP a), (txtP b))) HN.out (by decide))
    refine sq_st 30 (w.heap.size + 1) (tqT (false, (txtP a), (txtP b))) HN.out Try.infoPq rfl (by kernel_rfl) (HG.out.h.pick [1] _ rfl) (by kernel_rfl) ?_
    clear HN
    generalize World.setRow _ (w.heap.size + 1) _ = t3 at *
    refine sq_done ?_
    refine (by assumption : ∀ (a : Act) (w_1 : World), Code.wp _ Code.ret _ a w_1 → _) _ _ ?_
    refine wp_ret ?_
    try refine wk_block ?_
    try refine wk_then ?_
    exact bodyPost_ret (results_cell_row Try.results31 _ _ (w.heap.size + 1) _ _ _ _ (by kernel_rfl) (HG.out.at 0 rfl) Try.underlying30 rfl Try.infoPq) (by kernel_rfl) ⟨rfl, HG.out.b⟩
theorem none_dec (x : Pt) : decide (x = noP) = noneP x := by
  cases h : noneP x with
  | true => exact decide_eq_true (none_p.1 h)
  | false => exact decide_eq_false (fun e => by rw [none_p.2 e] at h; cases h)
set_option maxRecDepth 8000 in
set_option maxHeartbeats 4000000 in
theorem pairPointOk_any (id : Int) (q : Tq) (w : World) : Calls Try.prog 8 #[.int .i64 id, .agg (tqT q)] w fun e w' => e = .returned (.bool (pairPtB id q)) ∧ Below w.heap.size w w' := by
  obtain ⟨z, x, y⟩ := q
  have HK := Lib.hid (curveOf_any id)
  unfold pairPtB
  simp only
  cases hb : cvB id with
  | false =>
    rw [hb] at HK
    rw [Bool.false_and]
    clear hb
    simp only [cvE_eq] at HK
    generalize cvNT id = tn at *
    generalize cvPT id = tp at *
    generalize cvRT id = tr at *
    generalize cvBT id = tb at *
    generalize cvKT id = tk at *
    generalize cvSz id = sz at *
    generalize cvSc id = sc at *
    generalize cvBr id = br at *
    have HG := Lib.hid (blks1 w (tqT (z, x, y)) 30)
    go_enter Try.func8, Try.ntmps8
    go_upto_region 1 with (fail)
    generalize w.alloc _ = w0 at *
    have HS := Lib.hid HG.out.h
    replace HS : Hid (Held w0 [(w.heap.size, tqT (z, x, y), 30)]) := Lib.hid (HG.out.h.pick [0] _ rfl)
    refine wp_region_line (S := fun w' => Held w' [(w.heap.size, tqT (z, x, y), 30)]) [(true, 0), (false, 1), (true, 2), (true, 3), (true, 4), (false, 5), (false, 6), (true, 7)] (by kernel_rfl) (by kernel_rfl) HS.out ?_
    refine sq_ps [(0, .int .i64 id)] (by kernel_rfl) ?_
    refine sq_c (some 9) Try.func19 (HK.out _) (by kernel_rfl) ?_
    rintro e v1 ⟨rfl, bw⟩
    replace HG := Lib.hid (HG.out.on bw)
    clear bw
    refine ⟨_, rfl, (HG.out.h.pick [0] _ rfl), ?_⟩
    refine sq_ps [(2, .tuple #[.agg (cvE (tn, tp, tr, tb, tk, sz, sc, br)), .bool false]), (3, .agg (cvE (tn, tp, tr, tb, tk, sz, sc, br))), (4, .bool false)] (by kernel_rfl) ?_
    replace HG := Lib.hid (HG.out.new (cvE (⟨#[]⟩, ⟨#[]⟩, ⟨#[]⟩, ⟨#[]⟩, noP, 0, 0, false)) 40)
    refine sq_alloc (some 5) 40 (cvE (⟨#[]⟩, ⟨#[]⟩, ⟨#[]⟩, ⟨#[]⟩, noP, 0, 0, false)) (by kernel_rfl) (by kernel_rfl) (by kernel_rfl) (by kernel_rfl) (zero_cv _) (HG.out.h.pick [1] _ rfl) ?_
    generalize v1.alloc _ = u2 at *
    generalize v1.heap.size = g2 at *
    have HN := Lib.hid (HG.out.at 0 rfl)
    replace HG : Hid (Blks w (u2.setRow g2 (cvE (tn, tp, tr, tb, tk, sz, sc, br))) [(g2, cvE (tn, tp, tr, tb, tk, sz, sc, br), 40), (w.heap.size, tqT (z, x, y), 30)]) := Lib.hid (HG.out.put 0 rfl (cvE (tn, tp, tr, tb, tk, sz, sc, br)))
    refine sq_st 40 g2 (cvE (tn, tp, tr, tb, tk, sz, sc, br)) HN.out Try.infoCv rfl (by kernel_rfl) (HG.out.h.pick [1] _ rfl) (by kernel_rfl) ?_
    clear HN
    generalize World.setRow _ g2 _ = t3 at *
    refine sq_ps [(7, .bool false)] (by kernel_rfl) ?_
    refine sq_fin { tmps := List.toArray (List.append [.int .i64 id, .agg (tqT (z, x, y)), undef, .pointer (some ⟨w.heap.size, 0, none⟩), .bool false, .pointer (some ⟨g2, 0, none⟩), .bool false, .tuple #[.agg (cvE (tn, tp, tr, tb, tk, sz, sc, br)), .bool false], .int .i64 id, .tuple #[.agg (cvE (tn, tp, tr, tb, tk, sz, sc, br)), .bool false], .agg (cvE (tn, tp, tr, tb, tk, sz, sc, br)), .bool false, undef, undef, undef, undef, undef, undef, undef, undef, undef, undef, undef, undef, undef, undef, undef, undef, undef, undef, undef, undef, undef, undef, undef, undef, undef, undef, undef, undef] ([undef, undef, undef, undef, undef, undef, undef, undef, undef, undef, undef, undef, undef, undef])), defers := [] } (by kernel_rfl) ?_
    refine (by assumption : ∀ (a : Act) (w_1 : World), Code.wp _ _ _ a w_1 → _) _ _ ?_
    go_upto_region 2 with (fail)
    replace HS : Hid (Held t3 [(g2, cvE (tn, tp, tr, tb, tk, sz, sc, br), 40), (w.heap.size, tqT (z, x, y), 30)]) := Lib.hid (HG.out.h.pick [0, 1] _ rfl)
    refine wp_region_line (S := fun w' => Held w' [(g2, cvE (tn, tp, tr, tb, tk, sz, sc, br), 40), (w.heap.size, tqT (z, x, y), 30)]) [(true, 0), (true, 1), (true, 2), (true, 3), (true, 4), (true, 5)] (by kernel_rfl) (by kernel_rfl) HS.out ?_
    refine SQ.out ?_
    refine g_ps [(0, .bool false), (1, .bool true), (2, .bool true)] (by kernel_rfl) ?_
    refine g_no [3, 4] (by kernel_rfl) ?_
    refine g_ps [(5, .bool true)] (by kernel_rfl) ?_
    refine g_norm { tmps := List.toArray (List.append [.int .i64 id, .agg (tqT (z, x, y)), undef, .pointer (some ⟨w.heap.size, 0, none⟩), .bool false, .pointer (some ⟨g2, 0, none⟩), .bool false, .tuple #[.agg (cvE (tn, tp, tr, tb, tk, sz, sc, br)), .bool false], .int .i64 id, .tuple #[.agg (cvE (tn, tp, tr, tb, tk, sz, sc, br)), .bool false], .agg (cvE (tn, tp, tr, tb, tk, sz, sc, br)), .bool false, .bool false, .bool true, .bool true, undef, undef, .bool true, undef, undef, undef, undef, undef, undef, undef, undef, undef, undef, undef, undef, undef, undef, undef, undef, undef, undef, undef, undef, undef, undef] ([undef, undef, undef, undef, undef, undef, undef, undef, undef, undef, undef, undef, undef, undef])), defers := [] } (by kernel_rfl) ?_
    refine g_done ?_
    refine (by assumption : ∀ (a : Act) (w_1 : World), Code.wp _ _ _ a w_1 → _) _ _ ?_
    go_upto_region 3 with (fail)
    replace HS : Hid (Held t3 [(g2, cvE (tn, tp, tr, tb, tk, sz, sc, br), 40), (w.heap.size, tqT (z, x, y), 30)]) := Lib.hid (HG.out.h.pick [0, 1] _ rfl)
    refine wp_region_line (S := fun w' => Held w' [(g2, cvE (tn, tp, tr, tb, tk, sz, sc, br), 40), (w.heap.size, tqT (z, x, y), 30)]) [(true, 0), (true, 1), (true, 2), (true, 3), (true, 4), (true, 5), (true, 6), (true, 7), (true, 8), (true, 9), (true, 10), (true, 11), (true, 12), (true, 13)] (by kernel_rfl) (by kernel_rfl) HS.out ?_
    refine SQ.out ?_
    refine g_ps [(0, .bool false), (1, .bool false)] (by kernel_rfl) ?_
    refine g_no [2, 3, 4, 5] (by kernel_rfl) ?_
    refine g_ps [(6, .bool false), (7, .bool false)] (by kernel_rfl) ?_
    refine g_no [8, 9, 10, 11] (by kernel_rfl) ?_
    refine g_ps [(12, .bool false), (13, .bool false)] (by kernel_rfl) ?_
    refine g_done ?_
    refine (by assumption : ∀ (a : Act) (w_1 : World), Code.wp _ Code.ret _ a w_1 → _) _ _ ?_
    refine wp_ret ?_
    try refine wk_block ?_
    try refine wk_then ?_
    exact wk_ret (v := .bool false) Try.results8 (by kernel_rfl) (by kernel_rfl) ⟨rfl, HG.out.b⟩
  | true =>
  rw [hb] at HK
  rw [Bool.true_and]
  cases z with
  | true =>
    rw [if_pos rfl]
    clear hb
    have H2 := Lib.hid (none_dec y)
    generalize noneP y = b2 at *
    have H1 := Lib.hid (none_dec x)
    cases h1 : noneP x with
    | false =>
      rw [h1] at H1
      rw [Bool.false_and]
      clear h1
      simp only [cvE_eq] at HK
      generalize cvNT id = tn at *
      generalize cvPT id = tp at *
      generalize cvRT id = tr at *
      generalize cvBT id = tb at *
      generalize cvKT id = tk at *
      generalize cvSz id = sz at *
      generalize cvSc id = sc at *
      generalize cvBr id = br at *
      have HG := Lib.hid (blks1 w (tqT (true, x, y)) 30)
      go_enter Try.func8, Try.ntmps8
      go_upto_region 1 with (fail)
      generalize w.alloc _ = w0 at *
      have HS := Lib.hid HG.out.h
      replace HS : Hid (Held w0 [(w.heap.size, tqT (true, x, y), 30)]) := Lib.hid (HG.out.h.pick [0] _ rfl)
      refine wp_region_line (S := fun w' => Held w' [(w.heap.size, tqT (true, x, y), 30)]) [(true, 0), (false, 1), (true, 2), (true, 3), (true, 4), (false, 5), (false, 6), (true, 7)] (by kernel_rfl) (by kernel_rfl) HS.out ?_
      refine sq_ps [(0, .int .i64 id)] (by kernel_rfl) ?_
      refine sq_c (some 9) Try.func19 (HK.out _) (by kernel_rfl) ?_
      rintro e v1 ⟨rfl, bw⟩
      replace HG := Lib.hid (HG.out.on bw)
      clear bw
      refine ⟨_, rfl, (HG.out.h.pick [0] _ rfl), ?_⟩
      refine sq_ps [(2, .tuple #[.agg (cvE (tn, tp, tr, tb, tk, sz, sc, br)), .bool true]), (3, .agg (cvE (tn, tp, tr, tb, tk, sz, sc, br))), (4, .bool true)] (by kernel_rfl) ?_
      replace HG := Lib.hid (HG.out.new (cvE (⟨#[]⟩, ⟨#[]⟩, ⟨#[]⟩, ⟨#[]⟩, noP, 0, 0, false)) 40)
      refine sq_alloc (some 5) 40 (cvE (⟨#[]⟩, ⟨#[]⟩, ⟨#[]⟩, ⟨#[]⟩, noP, 0, 0, false)) (by kernel_rfl) (by kernel_rfl) (by kernel_rfl) (by kernel_rfl) (zero_cv _) (HG.out.h.pick [1] _ rfl) ?_
      generalize v1.alloc _ = u2 at *
      generalize v1.heap.size = g2 at *
      have HN := Lib.hid (HG.out.at 0 rfl)
      replace HG : Hid (Blks w (u2.setRow g2 (cvE (tn, tp, tr, tb, tk, sz, sc, br))) [(g2, cvE (tn, tp, tr, tb, tk, sz, sc, br), 40), (w.heap.size, tqT (true, x, y), 30)]) := Lib.hid (HG.out.put 0 rfl (cvE (tn, tp, tr, tb, tk, sz, sc, br)))
      refine sq_st 40 g2 (cvE (tn, tp, tr, tb, tk, sz, sc, br)) HN.out Try.infoCv rfl (by kernel_rfl) (HG.out.h.pick [1] _ rfl) (by kernel_rfl) ?_
      clear HN
      generalize World.setRow _ g2 _ = t3 at *
      refine sq_ps [(7, .bool true)] (by kernel_rfl) ?_
      refine sq_fin { tmps := List.toArray (List.append [.int .i64 id, .agg (tqT (true, x, y)), undef, .pointer (some ⟨w.heap.size, 0, none⟩), .bool false, .pointer (some ⟨g2, 0, none⟩), .bool true, .tuple #[.agg (cvE (tn, tp, tr, tb, tk, sz, sc, br)), .bool true], .int .i64 id, .tuple #[.agg (cvE (tn, tp, tr, tb, tk, sz, sc, br)), .bool true], .agg (cvE (tn, tp, tr, tb, tk, sz, sc, br)), .bool true, undef, undef, undef, undef, undef, undef, undef, undef, undef, undef, undef, undef, undef, undef, undef, undef, undef, undef, undef, undef, undef, undef, undef, undef, undef, undef, undef, undef] ([undef, undef, undef, undef, undef, undef, undef, undef, undef, undef, undef, undef, undef, undef])), defers := [] } (by kernel_rfl) ?_
      refine (by assumption : ∀ (a : Act) (w_1 : World), Code.wp _ _ _ a w_1 → _) _ _ ?_
      go_upto_region 2 with (fail)
      replace HS : Hid (Held t3 [(g2, cvE (tn, tp, tr, tb, tk, sz, sc, br), 40), (w.heap.size, tqT (true, x, y), 30)]) := Lib.hid (HG.out.h.pick [0, 1] _ rfl)
      refine wp_region_line (S := fun w' => Held w' [(g2, cvE (tn, tp, tr, tb, tk, sz, sc, br), 40), (w.heap.size, tqT (true, x, y), 30)]) [(true, 0), (true, 1), (true, 2), (true, 3), (true, 4), (true, 5)] (by kernel_rfl) (by kernel_rfl) HS.out ?_
      refine SQ.out ?_
      refine g_ps [(0, .bool true), (1, .bool false), (2, .bool false), (3, .pointer (some ⟨w.heap.size, 0, none⟩))] (by kernel_rfl) ?_
      refine g_ld (some 16) (wk_b (.tail _ (.head _)) (k := 0) rfl) (by kernel_rfl) ?_
      refine g_ps [(5, .bool true)] (by kernel_rfl) ?_
      refine g_norm { tmps := List.toArray (List.append [.int .i64 id, .agg (tqT (true, x, y)), undef, .pointer (some ⟨w.heap.size, 0, none⟩), .bool false, .pointer (some ⟨g2, 0, none⟩), .bool true, .tuple #[.agg (cvE (tn, tp, tr, tb, tk, sz, sc, br)), .bool true], .int .i64 id, .tuple #[.agg (cvE (tn, tp, tr, tb, tk, sz, sc, br)), .bool true], .agg (cvE (tn, tp, tr, tb, tk, sz, sc, br)), .bool true, .bool true, .bool false, .bool false, .pointer (some ⟨w.heap.size, 0, none⟩), .bool true, .bool true, undef, undef, undef, undef, undef, undef, undef, undef, undef, undef, undef, undef, undef, undef, undef, undef, undef, undef, undef, undef, undef, undef] ([undef, undef, undef, undef, undef, undef, undef, undef, undef, undef, undef, undef, undef, undef])), defers := [] } (by kernel_rfl) ?_
      refine g_done ?_
      refine (by assumption : ∀ (a : Act) (w_1 : World), Code.wp _ _ _ a w_1 → _) _ _ ?_
      go_upto_region 3 with (fail)
      replace HS : Hid (Held t3 [(g2, cvE (tn, tp, tr, tb, tk, sz, sc, br), 40), (w.heap.size, tqT (true, x, y), 30)]) := Lib.hid (HG.out.h.pick [0, 1] _ rfl)
      refine wp_region_line (S := fun w' => Held w' [(g2, cvE (tn, tp, tr, tb, tk, sz, sc, br), 40), (w.heap.size, tqT (true, x, y), 30)]) [(true, 0), (true, 1), (true, 2), (true, 3), (true, 4), (true, 5), (true, 6), (true, 7), (true, 8), (true, 9), (true, 10), (true, 11), (true, 12), (true, 13)] (by kernel_rfl) (by kernel_rfl) HS.out ?_
      refine SQ.out ?_
      refine g_ps [(0, .bool true), (1, .bool true), (2, .pointer (some ⟨w.heap.size, 1, none⟩))] (by kernel_rfl) ?_
      refine g_ld (some 21) (ld_mid' (D := aggT x) (k := 1) Try.underlying28 rfl Try.infoP (.tail _ (.head _)) rfl) (by kernel_rfl) ?_
      refine g_pure (some 22) (.agg (aggT noP)) (by kernel_rfl) (wanted_by (g := 1) (b := true) (d := 19) (by kernel_rfl) (by kernel_rfl) (by kernel_rfl) (by kernel_rfl)) (held_build 28 #[] (by kernel_rfl) _ (by kernel_rfl) _ built_pair0) ?_
      refine g_take (some 23) (.bool false) (by kernel_rfl) (eq_pr (wanted_by (g := 1) (b := true) (d := 19) (by kernel_rfl) (by kernel_rfl) (by kernel_rfl) (by kernel_rfl)) (.tmp 21) (.tmp 22) (by kernel_rfl) x noP false H1.out (by kernel_rfl) (by kernel_rfl)) ?_
      refine g_ps [(6, .bool false), (7, .bool false)] (by kernel_rfl) ?_
      refine g_no [8, 9, 10, 11] (by kernel_rfl) ?_
      refine g_ps [(12, .bool false), (13, .bool false)] (by kernel_rfl) ?_
      refine g_done ?_
      refine (by assumption : ∀ (a : Act) (w_1 : World), Code.wp _ Code.ret _ a w_1 → _) _ _ ?_
      refine wp_ret ?_
      try refine wk_block ?_
      try refine wk_then ?_
      exact wk_ret (v := .bool false) Try.results8 (by kernel_rfl) (by kernel_rfl) ⟨rfl, HG.out.b⟩
    | true =>
      rw [h1] at H1
      rw [Bool.true_and]
      clear h1
      simp only [cvE_eq] at HK
      generalize cvNT id = tn at *
      generalize cvPT id = tp at *
      generalize cvRT id = tr at *
      generalize cvBT id = tb at *
      generalize cvKT id = tk at *
      generalize cvSz id = sz at *
      generalize cvSc id = sc at *
      generalize cvBr id = br at *
      have HG := Lib.hid (blks1 w (tqT (true, x, y)) 30)
      go_enter Try.func8, Try.ntmps8
      go_upto_region 1 with (fail)
      generalize w.alloc _ = w0 at *
      have HS := Lib.hid HG.out.h
      replace HS : Hid (Held w0 [(w.heap.size, tqT (true, x, y), 30)]) := Lib.hid (HG.out.h.pick [0] _ rfl)
      refine wp_region_line (S := fun w' => Held w' [(w.heap.size, tqT (true, x, y), 30)]) [(true, 0), (false, 1), (true, 2), (true, 3), (true, 4), (false, 5), (false, 6), (true, 7)] (by kernel_rfl) (by kernel_rfl) HS.out ?_
      refine sq_ps [(0, .int .i64 id)] (by kernel_rfl) ?_
      refine sq_c (some 9) Try.func19 (HK.out _) (by kernel_rfl) ?_
      rintro e v1 ⟨rfl, bw⟩
      replace HG := Lib.hid (HG.out.on bw)
      clear bw
      refine ⟨_, rfl, (HG.out.h.pick [0] _ rfl), ?_⟩
      refine sq_ps [(2, .tuple #[.agg (cvE (tn, tp, tr, tb, tk, sz, sc, br)), .bool true]), (3, .agg (cvE (tn, tp, tr, tb, tk, sz, sc, br))), (4, .bool true)] (by kernel_rfl) ?_
      replace HG := Lib.hid (HG.out.new (cvE (⟨#[]⟩, ⟨#[]⟩, ⟨#[]⟩, ⟨#[]⟩, noP, 0, 0, false)) 40)
      refine sq_alloc (some 5) 40 (cvE (⟨#[]⟩, ⟨#[]⟩, ⟨#[]⟩, ⟨#[]⟩, noP, 0, 0, false)) (by kernel_rfl) (by kernel_rfl) (by kernel_rfl) (by kernel_rfl) (zero_cv _) (HG.out.h.pick [1] _ rfl) ?_
      generalize v1.alloc _ = u2 at *
      generalize v1.heap.size = g2 at *
      have HN := Lib.hid (HG.out.at 0 rfl)
      replace HG : Hid (Blks w (u2.setRow g2 (cvE (tn, tp, tr, tb, tk, sz, sc, br))) [(g2, cvE (tn, tp, tr, tb, tk, sz, sc, br), 40), (w.heap.size, tqT (true, x, y), 30)]) := Lib.hid (HG.out.put 0 rfl (cvE (tn, tp, tr, tb, tk, sz, sc, br)))
      refine sq_st 40 g2 (cvE (tn, tp, tr, tb, tk, sz, sc, br)) HN.out Try.infoCv rfl (by kernel_rfl) (HG.out.h.pick [1] _ rfl) (by kernel_rfl) ?_
      clear HN
      generalize World.setRow _ g2 _ = t3 at *
      refine sq_ps [(7, .bool true)] (by kernel_rfl) ?_
      refine sq_fin { tmps := List.toArray (List.append [.int .i64 id, .agg (tqT (true, x, y)), undef, .pointer (some ⟨w.heap.size, 0, none⟩), .bool false, .pointer (some ⟨g2, 0, none⟩), .bool true, .tuple #[.agg (cvE (tn, tp, tr, tb, tk, sz, sc, br)), .bool true], .int .i64 id, .tuple #[.agg (cvE (tn, tp, tr, tb, tk, sz, sc, br)), .bool true], .agg (cvE (tn, tp, tr, tb, tk, sz, sc, br)), .bool true, undef, undef, undef, undef, undef, undef, undef, undef, undef, undef, undef, undef, undef, undef, undef, undef, undef, undef, undef, undef, undef, undef, undef, undef, undef, undef, undef, undef] ([undef, undef, undef, undef, undef, undef, undef, undef, undef, undef, undef, undef, undef, undef])), defers := [] } (by kernel_rfl) ?_
      refine (by assumption : ∀ (a : Act) (w_1 : World), Code.wp _ _ _ a w_1 → _) _ _ ?_
      go_upto_region 2 with (fail)
      replace HS : Hid (Held t3 [(g2, cvE (tn, tp, tr, tb, tk, sz, sc, br), 40), (w.heap.size, tqT (true, x, y), 30)]) := Lib.hid (HG.out.h.pick [0, 1] _ rfl)
      refine wp_region_line (S := fun w' => Held w' [(g2, cvE (tn, tp, tr, tb, tk, sz, sc, br), 40), (w.heap.size, tqT (true, x, y), 30)]) [(true, 0), (true, 1), (true, 2), (true, 3), (true, 4), (true, 5)] (by kernel_rfl) (by kernel_rfl) HS.out ?_
      refine SQ.out ?_
      refine g_ps [(0, .bool true), (1, .bool false), (2, .bool false), (3, .pointer (some ⟨w.heap.size, 0, none⟩))] (by kernel_rfl) ?_
      refine g_ld (some 16) (wk_b (.tail _ (.head _)) (k := 0) rfl) (by kernel_rfl) ?_
      refine g_ps [(5, .bool true)] (by kernel_rfl) ?_
      refine g_norm { tmps := List.toArray (List.append [.int .i64 id, .agg (tqT (true, x, y)), undef, .pointer (some ⟨w.heap.size, 0, none⟩), .bool false, .pointer (some ⟨g2, 0, none⟩), .bool true, .tuple #[.agg (cvE (tn, tp, tr, tb, tk, sz, sc, br)), .bool true], .int .i64 id, .tuple #[.agg (cvE (tn, tp, tr, tb, tk, sz, sc, br)), .bool true], .agg (cvE (tn, tp, tr, tb, tk, sz, sc, br)), .bool true, .bool true, .bool false, .bool false, .pointer (some ⟨w.heap.size, 0, none⟩), .bool true, .bool true, undef, undef, undef, undef, undef, undef, undef, undef, undef, undef, undef, undef, undef, undef, undef, undef, undef, undef, undef, undef, undef, undef] ([undef, undef, undef, undef, undef, undef, undef, undef, undef, undef, undef, undef, undef, undef])), defers := [] } (by kernel_rfl) ?_
      refine g_done ?_
      refine (by assumption : ∀ (a : Act) (w_1 : World), Code.wp _ _ _ a w_1 → _) _ _ ?_
      go_upto_region 3 with (fail)
      replace HS : Hid (Held t3 [(g2, cvE (tn, tp, tr, tb, tk, sz, sc, br), 40), (w.heap.size, tqT (true, x, y), 30)]) := Lib.hid (HG.out.h.pick [0, 1] _ rfl)
      refine wp_region_line (S := fun w' => Held w' [(g2, cvE (tn, tp, tr, tb, tk, sz, sc, br), 40), (w.heap.size, tqT (true, x, y), 30)]) [(true, 0), (true, 1), (true, 2), (true, 3), (true, 4), (true, 5), (true, 6), (true, 7), (true, 8), (true, 9), (true, 10), (true, 11), (true, 12), (true, 13)] (by kernel_rfl) (by kernel_rfl) HS.out ?_
      refine SQ.out ?_
      refine g_ps [(0, .bool true), (1, .bool true), (2, .pointer (some ⟨w.heap.size, 1, none⟩))] (by kernel_rfl) ?_
      refine g_ld (some 21) (ld_mid' (D := aggT x) (k := 1) Try.underlying28 rfl Try.infoP (.tail _ (.head _)) rfl) (by kernel_rfl) ?_
      refine g_pure (some 22) (.agg (aggT noP)) (by kernel_rfl) (wanted_by (g := 1) (b := true) (d := 19) (by kernel_rfl) (by kernel_rfl) (by kernel_rfl) (by kernel_rfl)) (held_build 28 #[] (by kernel_rfl) _ (by kernel_rfl) _ built_pair0) ?_
      refine g_take (some 23) (.bool true) (by kernel_rfl) (eq_pr (wanted_by (g := 1) (b := true) (d := 19) (by kernel_rfl) (by kernel_rfl) (by kernel_rfl) (by kernel_rfl)) (.tmp 21) (.tmp 22) (by kernel_rfl) x noP true H1.out (by kernel_rfl) (by kernel_rfl)) ?_
      refine g_ps [(6, .bool true), (7, .bool true), (8, .pointer (some ⟨w.heap.size, 3, none⟩))] (by kernel_rfl) ?_
      refine g_ld (some 27) (ld_mid' (D := aggT y) (k := 3) Try.underlying28 rfl Try.infoP (.tail _ (.head _)) rfl) (by kernel_rfl) ?_
      refine g_pure (some 28) (.agg (aggT noP)) (by kernel_rfl) (wanted_by (g := 7) (b := true) (d := 25) (by kernel_rfl) (by kernel_rfl) (by kernel_rfl) (by kernel_rfl)) (held_build 28 #[] (by kernel_rfl) _ (by kernel_rfl) _ built_pair0) ?_
      refine g_take (some 29) (.bool b2) (by kernel_rfl) (eq_pr (wanted_by (g := 7) (b := true) (d := 25) (by kernel_rfl) (by kernel_rfl) (by kernel_rfl) (by kernel_rfl)) (.tmp 27) (.tmp 28) (by kernel_rfl) y noP b2 H2.out (by kernel_rfl) (by kernel_rfl)) ?_
      refine g_ps [(12, .bool b2), (13, .bool b2)] (by kernel_rfl) ?_
      refine g_done ?_
      refine (by assumption : ∀ (a : Act) (w_1 : World), Code.wp _ Code.ret _ a w_1 → _) _ _ ?_
      refine wp_ret ?_
      try refine wk_block ?_
      try refine wk_then ?_
      exact wk_ret (v := .bool b2) Try.results8 (by kernel_rfl) (by kernel_rfl) ⟨rfl, HG.out.b⟩
  | false =>
  rw [if_neg (by decide)]
  have RX := Lib.hid (pairOk_any x (cvPT id))
  have RY := Lib.hid (pairOk_any y (cvPT id))
  cases hx : pairB x (cvPT id) with
  | false =>
    rw [hx] at RX
    rw [Bool.false_and]
    clear hb hx RY
    simp only [cvE_eq] at HK
    generalize cvNT id = tn at *
    generalize cvPT id = tp at *
    generalize cvRT id = tr at *
    generalize cvBT id = tb at *
    generalize cvKT id = tk at *
    generalize cvSz id = sz at *
    generalize cvSc id = sc at *
    generalize cvBr id = br at *
    have HG := Lib.hid (blks1 w (tqT (false, x, y)) 30)
    go_enter Try.func8, Try.ntmps8
    go_upto_region 1 with (fail)
    generalize w.alloc _ = w0 at *
    have HS := Lib.hid HG.out.h
    replace HS : Hid (Held w0 [(w.heap.size, tqT (false, x, y), 30)]) := Lib.hid (HG.out.h.pick [0] _ rfl)
    refine wp_region_line (S := fun w' => Held w' [(w.heap.size, tqT (false, x, y), 30)]) [(true, 0), (false, 1), (true, 2), (true, 3), (true, 4), (false, 5), (false, 6), (true, 7)] (by kernel_rfl) (by kernel_rfl) HS.out ?_
    refine sq_ps [(0, .int .i64 id)] (by kernel_rfl) ?_
    refine sq_c (some 9) Try.func19 (HK.out _) (by kernel_rfl) ?_
    rintro e v1 ⟨rfl, bw⟩
    replace HG := Lib.hid (HG.out.on bw)
    clear bw
    refine ⟨_, rfl, (HG.out.h.pick [0] _ rfl), ?_⟩
    refine sq_ps [(2, .tuple #[.agg (cvE (tn, tp, tr, tb, tk, sz, sc, br)), .bool true]), (3, .agg (cvE (tn, tp, tr, tb, tk, sz, sc, br))), (4, .bool true)] (by kernel_rfl) ?_
    replace HG := Lib.hid (HG.out.new (cvE (⟨#[]⟩, ⟨#[]⟩, ⟨#[]⟩, ⟨#[]⟩, noP, 0, 0, false)) 40)
    refine sq_alloc (some 5) 40 (cvE (⟨#[]⟩, ⟨#[]⟩, ⟨#[]⟩, ⟨#[]⟩, noP, 0, 0, false)) (by kernel_rfl) (by kernel_rfl) (by kernel_rfl) (by kernel_rfl) (zero_cv _) (HG.out.h.pick [1] _ rfl) ?_
    generalize v1.alloc _ = u2 at *
    generalize v1.heap.size = g2 at *
    have HN := Lib.hid (HG.out.at 0 rfl)
    replace HG : Hid (Blks w (u2.setRow g2 (cvE (tn, tp, tr, tb, tk, sz, sc, br))) [(g2, cvE (tn, tp, tr, tb, tk, sz, sc, br), 40), (w.heap.size, tqT (false, x, y), 30)]) := Lib.hid (HG.out.put 0 rfl (cvE (tn, tp, tr, tb, tk, sz, sc, br)))
    refine sq_st 40 g2 (cvE (tn, tp, tr, tb, tk, sz, sc, br)) HN.out Try.infoCv rfl (by kernel_rfl) (HG.out.h.pick [1] _ rfl) (by kernel_rfl) ?_
    clear HN
    generalize World.setRow _ g2 _ = t3 at *
    refine sq_ps [(7, .bool true)] (by kernel_rfl) ?_
    refine sq_fin { tmps := List.toArray (List.append [.int .i64 id, .agg (tqT (false, x, y)), undef, .pointer (some ⟨w.heap.size, 0, none⟩), .bool false, .pointer (some ⟨g2, 0, none⟩), .bool true, .tuple #[.agg (cvE (tn, tp, tr, tb, tk, sz, sc, br)), .bool true], .int .i64 id, .tuple #[.agg (cvE (tn, tp, tr, tb, tk, sz, sc, br)), .bool true], .agg (cvE (tn, tp, tr, tb, tk, sz, sc, br)), .bool true, undef, undef, undef, undef, undef, undef, undef, undef, undef, undef, undef, undef, undef, undef, undef, undef, undef, undef, undef, undef, undef, undef, undef, undef, undef, undef, undef, undef] ([undef, undef, undef, undef, undef, undef, undef, undef, undef, undef, undef, undef, undef, undef])), defers := [] } (by kernel_rfl) ?_
    refine (by assumption : ∀ (a : Act) (w_1 : World), Code.wp _ _ _ a w_1 → _) _ _ ?_
    go_upto_region 2 with (fail)
    replace HS : Hid (Held t3 [(g2, cvE (tn, tp, tr, tb, tk, sz, sc, br), 40), (w.heap.size, tqT (false, x, y), 30)]) := Lib.hid (HG.out.h.pick [0, 1] _ rfl)
    refine wp_region_line (S := fun w' => Held w' [(g2, cvE (tn, tp, tr, tb, tk, sz, sc, br), 40), (w.heap.size, tqT (false, x, y), 30)]) [(true, 0), (true, 1), (true, 2), (true, 3), (true, 4), (true, 5)] (by kernel_rfl) (by kernel_rfl) HS.out ?_
    refine SQ.out ?_
    refine g_ps [(0, .bool true), (1, .bool false), (2, .bool false), (3, .pointer (some ⟨w.heap.size, 0, none⟩))] (by kernel_rfl) ?_
    refine g_ld (some 16) (wk_b (.tail _ (.head _)) (k := 0) rfl) (by kernel_rfl) ?_
    refine g_ps [(5, .bool false)] (by kernel_rfl) ?_
    refine g_norm { tmps := List.toArray (List.append [.int .i64 id, .agg (tqT (false, x, y)), undef, .pointer (some ⟨w.heap.size, 0, none⟩), .bool false, .pointer (some ⟨g2, 0, none⟩), .bool true, .tuple #[.agg (cvE (tn, tp, tr, tb, tk, sz, sc, br)), .bool true], .int .i64 id, .tuple #[.agg (cvE (tn, tp, tr, tb, tk, sz, sc, br)), .bool true], .agg (cvE (tn, tp, tr, tb, tk, sz, sc, br)), .bool true, .bool true, .bool false, .bool false, .pointer (some ⟨w.heap.size, 0, none⟩), .bool false, .bool false, undef, undef, undef, undef, undef, undef, undef, undef, undef, undef, undef, undef, undef, undef, undef, undef, undef, undef, undef, undef, undef, undef] ([undef, undef, undef, undef, undef, undef, undef, undef, undef, undef, undef, undef, undef, undef])), defers := [] } (by kernel_rfl) ?_
    refine g_done ?_
    refine (by assumption : ∀ (a : Act) (w_1 : World), Code.wp _ _ _ a w_1 → _) _ _ ?_
    go_upto_region 4 with (fail)
    replace HS : Hid (Held t3 [(g2, cvE (tn, tp, tr, tb, tk, sz, sc, br), 40), (w.heap.size, tqT (false, x, y), 30)]) := Lib.hid (HG.out.h.pick [0, 1] _ rfl)
    replace HG := Lib.hid HG.out.drew
    replace HS := Lib.hid HS.out.drew
    refine sq_go (S := fun w' => Held w' [(g2, cvE (tn, tp, tr, tb, tk, sz, sc, br), 40), (w.heap.size, tqT (false, x, y), 30)]) [(true, 0), (true, 1), (true, 2), (true, 3), (false, 4), (true, 5), (true, 6), (true, 7), (true, 8), (true, 9), (true, 10), (true, 11), (true, 12), (true, 13), (true, 14), (true, 15), (true, 16), (true, 17), (true, 18), (true, 19), (true, 20), (true, 21), (true, 22), (true, 23)] (by kernel_rfl) (fun d _ _ _ _ h => by cases d <;> exact h) HS.out ?_
    refine SQ.out ?_
    refine g_ps [(0, .pointer (some ⟨w.heap.size, 1, none⟩))] (by kernel_rfl) ?_
    refine g_ld (some 32) (ld_mid' (D := aggT x) (k := 1) Try.underlying28 rfl Try.infoP (.tail _ (.head _)) rfl) (by kernel_rfl) ?_
    refine g_ps [(2, .pointer (some ⟨g2, 1, none⟩))] (by kernel_rfl) ?_
    refine g_ld (some 34) (wk_s (.head _) (k := 1) rfl) (by kernel_rfl) ?_
    refine g_c (some 35) Try.func20 (RX.out _) (by kernel_rfl) ?_
    rintro e v4 ⟨rfl, bw⟩
    replace HG := Lib.hid (HG.out.on bw)
    clear bw
    refine ⟨_, rfl, (HG.out.h.pick [0, 1] _ rfl), ?_⟩
    refine g_ps [(5, .bool false)] (by kernel_rfl) ?_
    refine g_no [6, 7, 8, 9, 10] (by kernel_rfl) ?_
    refine g_ps [(11, .bool false), (12, .bool false)] (by kernel_rfl) ?_
    refine g_no [13, 14, 15, 16, 17, 18, 19, 20, 21] (by kernel_rfl) ?_
    refine g_ps [(22, .bool false), (23, .bool false)] (by kernel_rfl) ?_
    refine g_done ?_
    refine (by assumption : ∀ (a : Act) (w_1 : World), Code.wp _ Code.ret _ a w_1 → _) _ _ ?_
    refine wp_ret ?_
    try refine wk_block ?_
    try refine wk_then ?_
    exact wk_ret (v := .bool false) Try.results8 (by kernel_rfl) (by kernel_rfl) ⟨rfl, HG.out.b⟩
  | true =>
  rw [hx] at RX
  rw [Bool.true_and]
  cases hy : pairB y (cvPT id) with
  | false =>
    rw [hy] at RY
    rw [Bool.false_and]
    clear hb hx hy
    simp only [cvE_eq] at HK
    generalize cvNT id = tn at *
    generalize cvPT id = tp at *
    generalize cvRT id = tr at *
    generalize cvBT id = tb at *
    generalize cvKT id = tk at *
    generalize cvSz id = sz at *
    generalize cvSc id = sc at *
    generalize cvBr id = br at *
    have HG := Lib.hid (blks1 w (tqT (false, x, y)) 30)
    go_enter Try.func8, Try.ntmps8
    go_upto_region 1 with (fail)
    generalize w.alloc _ = w0 at *
    have HS := Lib.hid HG.out.h
    replace HS : Hid (Held w0 [(w.heap.size, tqT (false, x, y), 30)]) := Lib.hid (HG.out.h.pick [0] _ rfl)
    refine wp_region_line (S := fun w' => Held w' [(w.heap.size, tqT (false, x, y), 30)]) [(true, 0), (false, 1), (true, 2), (true, 3), (true, 4), (false, 5), (false, 6), (true, 7)] (by kernel_rfl) (by kernel_rfl) HS.out ?_
    refine sq_ps [(0, .int .i64 id)] (by kernel_rfl) ?_
    refine sq_c (some 9) Try.func19 (HK.out _) (by kernel_rfl) ?_
    rintro e v1 ⟨rfl, bw⟩
    replace HG := Lib.hid (HG.out.on bw)
    clear bw
    refine ⟨_, rfl, (HG.out.h.pick [0] _ rfl), ?_⟩
    refine sq_ps [(2, .tuple #[.agg (cvE (tn, tp, tr, tb, tk, sz, sc, br)), .bool true]), (3, .agg (cvE (tn, tp, tr, tb, tk, sz, sc, br))), (4, .bool true)] (by kernel_rfl) ?_
    replace HG := Lib.hid (HG.out.new (cvE (⟨#[]⟩, ⟨#[]⟩, ⟨#[]⟩, ⟨#[]⟩, noP, 0, 0, false)) 40)
    refine sq_alloc (some 5) 40 (cvE (⟨#[]⟩, ⟨#[]⟩, ⟨#[]⟩, ⟨#[]⟩, noP, 0, 0, false)) (by kernel_rfl) (by kernel_rfl) (by kernel_rfl) (by kernel_rfl) (zero_cv _) (HG.out.h.pick [1] _ rfl) ?_
    generalize v1.alloc _ = u2 at *
    generalize v1.heap.size = g2 at *
    have HN := Lib.hid (HG.out.at 0 rfl)
    replace HG : Hid (Blks w (u2.setRow g2 (cvE (tn, tp, tr, tb, tk, sz, sc, br))) [(g2, cvE (tn, tp, tr, tb, tk, sz, sc, br), 40), (w.heap.size, tqT (false, x, y), 30)]) := Lib.hid (HG.out.put 0 rfl (cvE (tn, tp, tr, tb, tk, sz, sc, br)))
    refine sq_st 40 g2 (cvE (tn, tp, tr, tb, tk, sz, sc, br)) HN.out Try.infoCv rfl (by kernel_rfl) (HG.out.h.pick [1] _ rfl) (by kernel_rfl) ?_
    clear HN
    generalize World.setRow _ g2 _ = t3 at *
    refine sq_ps [(7, .bool true)] (by kernel_rfl) ?_
    refine sq_fin { tmps := List.toArray (List.append [.int .i64 id, .agg (tqT (false, x, y)), undef, .pointer (some ⟨w.heap.size, 0, none⟩), .bool false, .pointer (some ⟨g2, 0, none⟩), .bool true, .tuple #[.agg (cvE (tn, tp, tr, tb, tk, sz, sc, br)), .bool true], .int .i64 id, .tuple #[.agg (cvE (tn, tp, tr, tb, tk, sz, sc, br)), .bool true], .agg (cvE (tn, tp, tr, tb, tk, sz, sc, br)), .bool true, undef, undef, undef, undef, undef, undef, undef, undef, undef, undef, undef, undef, undef, undef, undef, undef, undef, undef, undef, undef, undef, undef, undef, undef, undef, undef, undef, undef] ([undef, undef, undef, undef, undef, undef, undef, undef, undef, undef, undef, undef, undef, undef])), defers := [] } (by kernel_rfl) ?_
    refine (by assumption : ∀ (a : Act) (w_1 : World), Code.wp _ _ _ a w_1 → _) _ _ ?_
    go_upto_region 2 with (fail)
    replace HS : Hid (Held t3 [(g2, cvE (tn, tp, tr, tb, tk, sz, sc, br), 40), (w.heap.size, tqT (false, x, y), 30)]) := Lib.hid (HG.out.h.pick [0, 1] _ rfl)
    refine wp_region_line (S := fun w' => Held w' [(g2, cvE (tn, tp, tr, tb, tk, sz, sc, br), 40), (w.heap.size, tqT (false, x, y), 30)]) [(true, 0), (true, 1), (true, 2), (true, 3), (true, 4), (true, 5)] (by kernel_rfl) (by kernel_rfl) HS.out ?_
    refine SQ.out ?_
    refine g_ps [(0, .bool true), (1, .bool false), (2, .bool false), (3, .pointer (some ⟨w.heap.size, 0, none⟩))] (by kernel_rfl) ?_
    refine g_ld (some 16) (wk_b (.tail _ (.head _)) (k := 0) rfl) (by kernel_rfl) ?_
    refine g_ps [(5, .bool false)] (by kernel_rfl) ?_
    refine g_norm { tmps := List.toArray (List.append [.int .i64 id, .agg (tqT (false, x, y)), undef, .pointer (some ⟨w.heap.size, 0, none⟩), .bool false, .pointer (some ⟨g2, 0, none⟩), .bool true, .tuple #[.agg (cvE (tn, tp, tr, tb, tk, sz, sc, br)), .bool true], .int .i64 id, .tuple #[.agg (cvE (tn, tp, tr, tb, tk, sz, sc, br)), .bool true], .agg (cvE (tn, tp, tr, tb, tk, sz, sc, br)), .bool true, .bool true, .bool false, .bool false, .pointer (some ⟨w.heap.size, 0, none⟩), .bool false, .bool false, undef, undef, undef, undef, undef, undef, undef, undef, undef, undef, undef, undef, undef, undef, undef, undef, undef, undef, undef, undef, undef, undef] ([undef, undef, undef, undef, undef, undef, undef, undef, undef, undef, undef, undef, undef, undef])), defers := [] } (by kernel_rfl) ?_
    refine g_done ?_
    refine (by assumption : ∀ (a : Act) (w_1 : World), Code.wp _ _ _ a w_1 → _) _ _ ?_
    go_upto_region 4 with (fail)
    replace HS : Hid (Held t3 [(g2, cvE (tn, tp, tr, tb, tk, sz, sc, br), 40), (w.heap.size, tqT (false, x, y), 30)]) := Lib.hid (HG.out.h.pick [0, 1] _ rfl)
    replace HG := Lib.hid HG.out.drew
    replace HS := Lib.hid HS.out.drew
    refine sq_go (S := fun w' => Held w' [(g2, cvE (tn, tp, tr, tb, tk, sz, sc, br), 40), (w.heap.size, tqT (false, x, y), 30)]) [(true, 0), (true, 1), (true, 2), (true, 3), (false, 4), (true, 5), (true, 6), (true, 7), (true, 8), (true, 9), (false, 10), (true, 11), (true, 12), (true, 13), (true, 14), (true, 15), (true, 16), (true, 17), (true, 18), (true, 19), (true, 20), (true, 21), (true, 22), (true, 23)] (by kernel_rfl) (fun d _ _ _ _ h => by cases d <;> exact h) HS.out ?_
    refine SQ.out ?_
    refine g_ps [(0, .pointer (some ⟨w.heap.size, 1, none⟩))] (by kernel_rfl) ?_
    refine g_ld (some 32) (ld_mid' (D := aggT x) (k := 1) Try.underlying28 rfl Try.infoP (.tail _ (.head _)) rfl) (by kernel_rfl) ?_
    refine g_ps [(2, .pointer (some ⟨g2, 1, none⟩))] (by kernel_rfl) ?_
    refine g_ld (some 34) (wk_s (.head _) (k := 1) rfl) (by kernel_rfl) ?_
    refine g_c (some 35) Try.func20 (RX.out _) (by kernel_rfl) ?_
    rintro e v4 ⟨rfl, bw⟩
    replace HG := Lib.hid (HG.out.on bw)
    clear bw
    refine ⟨_, rfl, (HG.out.h.pick [0, 1] _ rfl), ?_⟩
    refine g_ps [(5, .bool true), (6, .pointer (some ⟨w.heap.size, 3, none⟩))] (by kernel_rfl) ?_
    refine g_ld (some 38) (ld_mid' (D := aggT y) (k := 3) Try.underlying28 rfl Try.infoP (.tail _ (.head _)) rfl) (by kernel_rfl) ?_
    refine g_ps [(8, .pointer (some ⟨g2, 1, none⟩))] (by kernel_rfl) ?_
    refine g_ld (some 40) (wk_s (.head _) (k := 1) rfl) (by kernel_rfl) ?_
    refine g_c (some 41) Try.func20 (RY.out _) (by kernel_rfl) ?_
    rintro e v5 ⟨rfl, bw⟩
    replace HG := Lib.hid (HG.out.on bw)
    clear bw
    refine ⟨_, rfl, (HG.out.h.pick [0, 1] _ rfl), ?_⟩
    refine g_ps [(11, .bool false), (12, .bool false)] (by kernel_rfl) ?_
    refine g_no [13, 14, 15, 16, 17, 18, 19, 20, 21] (by kernel_rfl) ?_
    refine g_ps [(22, .bool false), (23, .bool false)] (by kernel_rfl) ?_
    refine g_done ?_
    refine (by assumption : ∀ (a : Act) (w_1 : World), Code.wp _ Code.ret _ a w_1 → _) _ _ ?_
    refine wp_ret ?_
    try refine wk_block ?_
    try refine wk_then ?_
    exact wk_ret (v := .bool false) Try.results8 (by kernel_rfl) (by kernel_rfl) ⟨rfl, HG.out.b⟩
  | true =>
    rw [hy] at RY
    rw [Bool.true_and]
    have F := curve_fit hb
    have l3 := gV_lt (modB_parts F.mp).1
    have g : ∀ {s : ByteArray}, okG s = true → s.size ≤ 1000000 := fun {s} k => by have := okG_size k; omega
    have hk := F.k
    have HI := Lib.hid (show Sm4 (false, x, y) ∧ ((cvKT id).1.size ≤ 1000000 ∧ (cvKT id).2.size ≤ 1000000) ∧ (cvPT id).size ≤ 1000000 from ⟨⟨⟨g (pair_oks hx).1, g (pair_oks hx).2⟩, ⟨g (pair_oks hy).1, g (pair_oks hy).2⟩⟩, ⟨g (pair_oks hk).1, g (pair_oks hk).2⟩, F.sp⟩)
    have HL := Lib.hid (show InP2 (gV (cvPT id)) (valP x) ∧ InP2 (gV (cvPT id)) (valP y) ∧ InP2 (gV (cvPT id)) (valP (cvKT id)) ∧ gV (cvPT id) < GB from ⟨(pair_num hx).1, (pair_num hy).1, (pair_num hk).1, l3⟩)
    obtain ⟨bo, hbo⟩ : ∃ o, onPB id x y = o := ⟨_, rfl⟩
    rw [hbo]
    unfold onPB at hbo
    have HBo := Lib.hid hbo
    clear hb hx hy F hbo l3 hk g
    simp only [cvE_eq] at HK
    generalize cvNT id = tn at *
    generalize cvPT id = tp at *
    generalize cvRT id = tr at *
    generalize cvBT id = tb at *
    generalize cvKT id = tk at *
    generalize cvSz id = sz at *
    generalize cvSc id = sc at *
    generalize cvBr id = br at *
    have HG := Lib.hid (blks1 w (tqT (false, x, y)) 30)
    go_enter Try.func8, Try.ntmps8
    go_upto_region 1 with (fail)
    generalize w.alloc _ = w0 at *
    have HS := Lib.hid HG.out.h
    replace HS : Hid (Held w0 [(w.heap.size, tqT (false, x, y), 30)]) := Lib.hid (HG.out.h.pick [0] _ rfl)
    refine wp_region_line (S := fun w' => Held w' [(w.heap.size, tqT (false, x, y), 30)]) [(true, 0), (false, 1), (true, 2), (true, 3), (true, 4), (false, 5), (false, 6), (true, 7)] (by kernel_rfl) (by kernel_rfl) HS.out ?_
    refine sq_ps [(0, .int .i64 id)] (by kernel_rfl) ?_
    refine sq_c (some 9) Try.func19 (HK.out _) (by kernel_rfl) ?_
    rintro e v1 ⟨rfl, bw⟩
    replace HG := Lib.hid (HG.out.on bw)
    clear bw
    refine ⟨_, rfl, (HG.out.h.pick [0] _ rfl), ?_⟩
    refine sq_ps [(2, .tuple #[.agg (cvE (tn, tp, tr, tb, tk, sz, sc, br)), .bool true]), (3, .agg (cvE (tn, tp, tr, tb, tk, sz, sc, br))), (4, .bool true)] (by kernel_rfl) ?_
    replace HG := Lib.hid (HG.out.new (cvE (⟨#[]⟩, ⟨#[]⟩, ⟨#[]⟩, ⟨#[]⟩, noP, 0, 0, false)) 40)
    refine sq_alloc (some 5) 40 (cvE (⟨#[]⟩, ⟨#[]⟩, ⟨#[]⟩, ⟨#[]⟩, noP, 0, 0, false)) (by kernel_rfl) (by kernel_rfl) (by kernel_rfl) (by kernel_rfl) (zero_cv _) (HG.out.h.pick [1] _ rfl) ?_
    generalize v1.alloc _ = u2 at *
    generalize v1.heap.size = g2 at *
    have HN := Lib.hid (HG.out.at 0 rfl)
    replace HG : Hid (Blks w (u2.setRow g2 (cvE (tn, tp, tr, tb, tk, sz, sc, br))) [(g2, cvE (tn, tp, tr, tb, tk, sz, sc, br), 40), (w.heap.size, tqT (false, x, y), 30)]) := Lib.hid (HG.out.put 0 rfl (cvE (tn, tp, tr, tb, tk, sz, sc, br)))
    refine sq_st 40 g2 (cvE (tn, tp, tr, tb, tk, sz, sc, br)) HN.out Try.infoCv rfl (by kernel_rfl) (HG.out.h.pick [1] _ rfl) (by kernel_rfl) ?_
    clear HN
    generalize World.setRow _ g2 _ = t3 at *
    refine sq_ps [(7, .bool true)] (by kernel_rfl) ?_
    refine sq_fin { tmps := List.toArray (List.append [.int .i64 id, .agg (tqT (false, x, y)), undef, .pointer (some ⟨w.heap.size, 0, none⟩), .bool false, .pointer (some ⟨g2, 0, none⟩), .bool true, .tuple #[.agg (cvE (tn, tp, tr, tb, tk, sz, sc, br)), .bool true], .int .i64 id, .tuple #[.agg (cvE (tn, tp, tr, tb, tk, sz, sc, br)), .bool true], .agg (cvE (tn, tp, tr, tb, tk, sz, sc, br)), .bool true, undef, undef, undef, undef, undef, undef, undef, undef, undef, undef, undef, undef, undef, undef, undef, undef, undef, undef, undef, undef, undef, undef, undef, undef, undef, undef, undef, undef] ([undef, undef, undef, undef, undef, undef, undef, undef, undef, undef, undef, undef, undef, undef])), defers := [] } (by kernel_rfl) ?_
    refine (by assumption : ∀ (a : Act) (w_1 : World), Code.wp _ _ _ a w_1 → _) _ _ ?_
    go_upto_region 2 with (fail)
    replace HS : Hid (Held t3 [(g2, cvE (tn, tp, tr, tb, tk, sz, sc, br), 40), (w.heap.size, tqT (false, x, y), 30)]) := Lib.hid (HG.out.h.pick [0, 1] _ rfl)
    refine wp_region_line (S := fun w' => Held w' [(g2, cvE (tn, tp, tr, tb, tk, sz, sc, br), 40), (w.heap.size, tqT (false, x, y), 30)]) [(true, 0), (true, 1), (true, 2), (true, 3), (true, 4), (true, 5)] (by kernel_rfl) (by kernel_rfl) HS.out ?_
    refine SQ.out ?_
    refine g_ps [(0, .bool true), (1, .bool false), (2, .bool false), (3, .pointer (some ⟨w.heap.size, 0, none⟩))] (by kernel_rfl) ?_
    refine g_ld (some 16) (wk_b (.tail _ (.head _)) (k := 0) rfl) (by kernel_rfl) ?_
    refine g_ps [(5, .bool false)] (by kernel_rfl) ?_
    refine g_norm { tmps := List.toArray (List.append [.int .i64 id, .agg (tqT (false, x, y)), undef, .pointer (some ⟨w.heap.size, 0, none⟩), .bool false, .pointer (some ⟨g2, 0, none⟩), .bool true, .tuple #[.agg (cvE (tn, tp, tr, tb, tk, sz, sc, br)), .bool true], .int .i64 id, .tuple #[.agg (cvE (tn, tp, tr, tb, tk, sz, sc, br)), .bool true], .agg (cvE (tn, tp, tr, tb, tk, sz, sc, br)), .bool true, .bool true, .bool false, .bool false, .pointer (some ⟨w.heap.size, 0, none⟩), .bool false, .bool false, undef, undef, undef, undef, undef, undef, undef, undef, undef, undef, undef, undef, undef, undef, undef, undef, undef, undef, undef, undef, undef, undef] ([undef, undef, undef, undef, undef, undef, undef, undef, undef, undef, undef, undef, undef, undef])), defers := [] } (by kernel_rfl) ?_
    refine g_done ?_
    refine (by assumption : ∀ (a : Act) (w_1 : World), Code.wp _ _ _ a w_1 → _) _ _ ?_
    go_upto_region 4 with (fail)
    replace HS : Hid (Held t3 [(g2, cvE (tn, tp, tr, tb, tk, sz, sc, br), 40), (w.heap.size, tqT (false, x, y), 30)]) := Lib.hid (HG.out.h.pick [0, 1] _ rfl)
    replace HG := Lib.hid HG.out.drew
    replace HS := Lib.hid HS.out.drew
    refine sq_go (S := fun w' => Held w' [(g2, cvE (tn, tp, tr, tb, tk, sz, sc, br), 40), (w.heap.size, tqT (false, x, y), 30)]) [(true, 0), (true, 1), (true, 2), (true, 3), (false, 4), (true, 5), (true, 6), (true, 7), (true, 8), (true, 9), (false, 10), (true, 11), (true, 12), (true, 13), (true, 15), (true, 16), (true, 18), (true, 19), (false, 14), (false, 17), (false, 20), (false, 21), (true, 22), (true, 23)] (by kernel_rfl) (fun d _ _ _ _ h => by cases d <;> exact h) HS.out ?_
    refine SQ.out ?_
    refine g_ps [(0, .pointer (some ⟨w.heap.size, 1, none⟩))] (by kernel_rfl) ?_
    refine g_ld (some 32) (ld_mid' (D := aggT x) (k := 1) Try.underlying28 rfl Try.infoP (.tail _ (.head _)) rfl) (by kernel_rfl) ?_
    refine g_ps [(2, .pointer (some ⟨g2, 1, none⟩))] (by kernel_rfl) ?_
    refine g_ld (some 34) (wk_s (.head _) (k := 1) rfl) (by kernel_rfl) ?_
    refine g_c (some 35) Try.func20 (RX.out _) (by kernel_rfl) ?_
    rintro e v4 ⟨rfl, bw⟩
    replace HG := Lib.hid (HG.out.on bw)
    clear bw
    refine ⟨_, rfl, (HG.out.h.pick [0, 1] _ rfl), ?_⟩
    refine g_ps [(5, .bool true), (6, .pointer (some ⟨w.heap.size, 3, none⟩))] (by kernel_rfl) ?_
    refine g_ld (some 38) (ld_mid' (D := aggT y) (k := 3) Try.underlying28 rfl Try.infoP (.tail _ (.head _)) rfl) (by kernel_rfl) ?_
    refine g_ps [(8, .pointer (some ⟨g2, 1, none⟩))] (by kernel_rfl) ?_
    refine g_ld (some 40) (wk_s (.head _) (k := 1) rfl) (by kernel_rfl) ?_
    refine g_c (some 41) Try.func20 (RY.out _) (by kernel_rfl) ?_
    rintro e v5 ⟨rfl, bw⟩
    replace HG := Lib.hid (HG.out.on bw)
    clear bw
    refine ⟨_, rfl, (HG.out.h.pick [0, 1] _ rfl), ?_⟩
    refine g_ps [(11, .bool true), (12, .bool true)] (by kernel_rfl) ?_
    refine g_ld (some 44) (ld_mid' (D := tqT (false, x, y)) (k := 0) Try.underlying30 rfl Try.infoPq (.tail _ (.head _)) rfl) (by kernel_rfl) ?_
    refine g_ps [(15, .pointer (some ⟨g2, 4, none⟩))] (by kernel_rfl) ?_
    refine g_ld (some 47) (ld_mid' (D := aggT tk) (k := 4) Try.underlying28 rfl Try.infoP (.head _) rfl) (by kernel_rfl) ?_
    refine g_ps [(18, .pointer (some ⟨g2, 1, none⟩))] (by kernel_rfl) ?_
    refine g_ld (some 50) (wk_s (.head _) (k := 1) rfl) (by kernel_rfl) ?_
    refine g_c (some 45) Try.func22 (in11_x (false, x, y) _ HI.out.1) (by kernel_rfl) ?_
    rintro e v6 ⟨Aq1, nq1, cq1, Aq2, nq2, cq2, Aq3, nq3, cq3, Aq4, nq4, cq4, rfl, k1, k2, k3, k4, bw⟩
    replace HG := Lib.hid (HG.out.on bw)
    clear bw
    have Xq1 := Lib.hid k1
    have Xq2 := Lib.hid k2
    have Xq3 := Lib.hid k3
    have Xq4 := Lib.hid k4
    clear k1 k2 k3 k4
    refine ⟨_, rfl, (HG.out.h.pick [0, 1] _ rfl), ?_⟩
    refine g_c (some 48) Try.func23 (in7_v tk _ HI.out.2.1.1 HI.out.2.1.2) (by kernel_rfl) ?_
    rintro e v7 ⟨Ab1, nb1, cb1, Ab2, nb2, cb2, rfl, k1, k2, bw⟩
    replace HG := Lib.hid (HG.out.on bw)
    replace Xq1 := Lib.hid (Xq1.out.below bw)
    replace Xq2 := Lib.hid (Xq2.out.below bw)
    replace Xq3 := Lib.hid (Xq3.out.below bw)
    replace Xq4 := Lib.hid (Xq4.out.below bw)
    clear bw
    have Xb1 := Lib.hid k1
    have Xb2 := Lib.hid k2
    clear k1 k2
    refine ⟨_, rfl, (HG.out.h.pick [0, 1] _ rfl), ?_⟩
    refine g_c (some 51) Try.func24 (in_v tp _ HI.out.2.2) (by kernel_rfl) ?_
    rintro e v8 ⟨Ap1, np1, cp1, rfl, k1, bw⟩
    replace HG := Lib.hid (HG.out.on bw)
    replace Xq1 := Lib.hid (Xq1.out.below bw)
    replace Xq2 := Lib.hid (Xq2.out.below bw)
    replace Xq3 := Lib.hid (Xq3.out.below bw)
    replace Xq4 := Lib.hid (Xq4.out.below bw)
    replace Xb1 := Lib.hid (Xb1.out.below bw)
    replace Xb2 := Lib.hid (Xb2.out.below bw)
    clear bw
    have Xp1 := Lib.hid k1
    clear k1
    refine ⟨_, rfl, (HG.out.h.pick [0, 1] _ rfl), ?_⟩
    refine g_c (some 52) Try.func21 (on10_x (z := false) (vb := .agg (vP2 (.slice Ab1 nb1 cb1, .slice Ab2 nb2 cb2))) (vp := .slice Ap1 np1 cp1) (A1 := Aq1) (n1 := nq1) (c1 := cq1) (A2 := Aq2) (n2 := nq2) (c2 := cq2) (A3 := Aq3) (n3 := nq3) (c3 := cq3) (A4 := Aq4) (n4 := nq4) (c4 := cq4) (x := valP x) (y := valP y) (b := valP tk) ⟨_, _, rfl, Xq1.out, Xq2.out⟩ ⟨_, _, rfl, Xq3.out, Xq4.out⟩ ⟨_, _, rfl, Xb1.out, Xb2.out⟩ Xp1.out HL.out.1 HL.out.2.1 HL.out.2.2.1 HL.out.2.2.2) (by kernel_rfl) ?_
    rintro e v9 ⟨he, bw⟩
    rw [HBo.out] at he
    subst he
    replace HG := Lib.hid (HG.out.on bw)
    replace Xq1 := Lib.hid (Xq1.out.below bw)
    replace Xq2 := Lib.hid (Xq2.out.below bw)
    replace Xq3 := Lib.hid (Xq3.out.below bw)
    replace Xq4 := Lib.hid (Xq4.out.below bw)
    replace Xb1 := Lib.hid (Xb1.out.below bw)
    replace Xb2 := Lib.hid (Xb2.out.below bw)
    replace Xp1 := Lib.hid (Xp1.out.below bw)
    clear bw
    refine ⟨_, rfl, (HG.out.h.pick [0, 1] _ rfl), ?_⟩
    refine g_ps [(22, .bool bo), (23, .bool bo)] (by kernel_rfl) ?_
    refine g_done ?_
    refine (by assumption : ∀ (a : Act) (w_1 : World), Code.wp _ Code.ret _ a w_1 → _) _ _ ?_
    refine wp_ret ?_
    try refine wk_block ?_
    try refine wk_then ?_
    exact wk_ret (v := .bool bo) Try.results8 (by kernel_rfl) (by kernel_rfl) ⟨rfl, HG.out.b⟩
theorem sm_on {id : Int} (hc : cvB id = true) {Q : P2} (h : onP (gV (cvPT id)) (valP (cvKT id)) Q) : ∀ A, Q = some A → (A.1.1 < SM ∧ A.1.2 < SM) ∧ (A.2.1 < SM ∧ A.2.2 < SM) := fun A hA => by
  have l3 := gV_lt (modB_parts (curve_fit hc).mp).1
  have k := val_in h
  rw [hA] at k
  exact ⟨⟨sm_one (Nat.lt_trans k.1.1 l3), sm_one (Nat.lt_trans k.1.2 l3)⟩, ⟨sm_one (Nat.lt_trans k.2.1 l3), sm_one (Nat.lt_trans k.2.2 l3)⟩⟩
set_option maxRecDepth 8000 in
set_option maxHeartbeats 4000000 in
theorem negPairPoint_any (id : Int) (q : Tq) (w : World) : Calls Try.prog 14 #[.int .i64 id, .agg (tqT q)] w fun e w' => e = .returned (.agg (tqT (negQG id q))) ∧ Below w.heap.size w w' := by
  have HO := Lib.hid (pairPointOk_any id q)
  unfold negQG
  cases hq : pairPtB id q with
  | false =>
    rw [hq] at HO
    rw [if_neg (by decide)]
    clear hq
    have HG := Lib.hid (blks2 w (tqT q) (#[.bool false, .string ⟨#[]⟩, .string ⟨#[]⟩, .string ⟨#[]⟩, .string ⟨#[]⟩]) 30 30)
    go_enter Try.func14, Try.ntmps14
    go_upto_region 1 with (fail)
    generalize (w.alloc _).alloc _ = w0 at *
    replace HG : Hid (Blks w w0 [(w.heap.size + 1, tqT (false, noP, noP), 30), (w.heap.size, tqT q, 30)]) := HG
    have HS := Lib.hid HG.out.h
    replace HS : Hid (Held w0 [((w.heap.size + 1), tqT (false, noP, noP), 30), (w.heap.size, tqT q, 30)]) := Lib.hid (HG.out.h.pick [0, 1] _ rfl)
    refine wp_region_line (S := fun w' => Held w' [((w.heap.size + 1), tqT (false, noP, noP), 30), (w.heap.size, tqT q, 30)]) [(true, 0), (true, 1), (false, 2), (true, 3)] (by kernel_rfl) (by kernel_rfl) HS.out ?_
    refine sq_ps [(0, .int .i64 id)] (by kernel_rfl) ?_
    refine sq_ld (some 6) (ld_mid' (D := tqT q) (k := 0) Try.underlying30 rfl Try.infoPq (.tail _ (.head _)) rfl) (by kernel_rfl) ?_
    refine sq_c (some 7) Try.func8 (HO.out _) (by kernel_rfl) ?_
    rintro e v1 ⟨rfl, bw⟩
    replace HG := Lib.hid (HG.out.on bw)
    clear bw
    refine ⟨_, rfl, (HG.out.h.pick [0, 1] _ rfl), ?_⟩
    refine sq_ps [(3, .bool true)] (by kernel_rfl) ?_
    refine sq_fin { tmps := List.toArray ([.int .i64 id, .agg (tqT q), undef, .pointer (some ⟨w.heap.size, 0, none⟩), .pointer (some ⟨(w.heap.size + 1), 0, none⟩), .int .i64 id, .agg (tqT q), .bool false, .bool true, undef, undef, undef, undef, undef, undef, undef, undef, undef]), defers := [] } (by kernel_rfl) ?_
    refine (by assumption : ∀ (a : Act) (w_1 : World), Code.wp _ _ _ a w_1 → _) _ _ ?_
    go_upto_region 2 with (fail)
    replace HS : Hid (Held v1 [(w.heap.size, tqT q, 30)]) := Lib.hid (HG.out.h.pick [1] _ rfl)
    refine wp_region_line (S := fun w' => Held w' [(w.heap.size, tqT q, 30)]) [(true, 0), (false, 1)] (by kernel_rfl) (by kernel_rfl) HS.out ?_
    refine sq_pure (some 9) (.agg (tqT (false, noP, noP))) (by kernel_rfl) (by kernel_rfl) (held_build 30 #[] (by kernel_rfl) _ (by kernel_rfl) _ built_pq0) ?_
    have HN := Lib.hid (HG.out.at 0 rfl)
    replace HG : Hid (Blks w (v1.setRow (w.heap.size + 1) (tqT (false, noP, noP))) [((w.heap.size + 1), tqT (false, noP, noP), 30), (w.heap.size, tqT q, 30)]) := Lib.hid (HG.out.put 0 rfl (tqT (false, noP, noP)))
    refine sq_st 30 (w.heap.size + 1) (tqT (false, noP, noP)) HN.out Try.infoPq rfl (by kernel_rfl) (HG.out.h.pick [1] _ rfl) (by kernel_rfl) ?_
    clear HN
    generalize World.setRow _ (w.heap.size + 1) _ = t2 at *
    refine sq_done ?_
    refine (by assumption : ∀ (a : Act) (w_1 : World), Code.wp _ Code.ret _ a w_1 → _) _ _ ?_
    refine wp_ret ?_
    try refine wk_block ?_
    try refine wk_then ?_
    exact bodyPost_ret (results_cell_row Try.results14 _ _ (w.heap.size + 1) _ _ _ _ (by kernel_rfl) (HG.out.at 0 rfl) Try.underlying30 rfl Try.infoPq) (by kernel_rfl) ⟨rfl, HG.out.b⟩
  | true =>
    rw [hq] at HO
    rw [if_pos rfl]
    have F := pair_fit hq
    have l3 := gV_lt (modB_parts (curve_fit F.cv).mp).1
    have HF := Lib.hid (And.intro (pair_sm hq) (And.intro (val_in F.on) l3))
    have HM := Lib.hid (sm_on F.cv ((curve_sums F.cv).pair.neg F.on))
    have HP := Lib.hid (curve_fit F.cv).sp
    have HCu := Lib.hid (l09Curve_any id)
    obtain ⟨Qa, hQ⟩ : ∃ Q, val4 q = Q := ⟨_, rfl⟩
    rw [hQ] at HF HM ⊢
    have HQa := Lib.hid hQ
    clear hq F l3 hQ
    obtain ⟨z, x, y⟩ := q
    simp only [cvE_eq] at HCu
    generalize cvNT id = tn at *
    generalize cvPT id = tp at *
    generalize cvRT id = tr at *
    generalize cvBT id = tb at *
    generalize cvKT id = tk at *
    generalize cvSz id = sz at *
    generalize cvSc id = sc at *
    generalize cvBr id = br at *
    have HG := Lib.hid (blks2 w (tqT (z, x, y)) (#[.bool false, .string ⟨#[]⟩, .string ⟨#[]⟩, .string ⟨#[]⟩, .string ⟨#[]⟩]) 30 30)
    go_enter Try.func14, Try.ntmps14
    go_upto_region 1 with (fail)
    generalize (w.alloc _).alloc _ = w0 at *
    replace HG : Hid (Blks w w0 [(w.heap.size + 1, tqT (false, noP, noP), 30), (w.heap.size, tqT (z, x, y), 30)]) := HG
    have HS := Lib.hid HG.out.h
    replace HS : Hid (Held w0 [((w.heap.size + 1), tqT (false, noP, noP), 30), (w.heap.size, tqT (z, x, y), 30)]) := Lib.hid (HG.out.h.pick [0, 1] _ rfl)
    refine wp_region_line (S := fun w' => Held w' [((w.heap.size + 1), tqT (false, noP, noP), 30), (w.heap.size, tqT (z, x, y), 30)]) [(true, 0), (true, 1), (false, 2), (true, 3)] (by kernel_rfl) (by kernel_rfl) HS.out ?_
    refine sq_ps [(0, .int .i64 id)] (by kernel_rfl) ?_
    refine sq_ld (some 6) (ld_mid' (D := tqT (z, x, y)) (k := 0) Try.underlying30 rfl Try.infoPq (.tail _ (.head _)) rfl) (by kernel_rfl) ?_
    refine sq_c (some 7) Try.func8 (HO.out _) (by kernel_rfl) ?_
    rintro e v1 ⟨rfl, bw⟩
    replace HG := Lib.hid (HG.out.on bw)
    clear bw
    refine ⟨_, rfl, (HG.out.h.pick [0, 1] _ rfl), ?_⟩
    refine sq_ps [(3, .bool false)] (by kernel_rfl) ?_
    refine sq_fin { tmps := List.toArray ([.int .i64 id, .agg (tqT (z, x, y)), undef, .pointer (some ⟨w.heap.size, 0, none⟩), .pointer (some ⟨(w.heap.size + 1), 0, none⟩), .int .i64 id, .agg (tqT (z, x, y)), .bool true, .bool false, undef, undef, undef, undef, undef, undef, undef, undef, undef]), defers := [] } (by kernel_rfl) ?_
    refine (by assumption : ∀ (a : Act) (w_1 : World), Code.wp _ _ _ a w_1 → _) _ _ ?_
    go_upto_region 3 with (fail)
    replace HS : Hid (Held v1 [(w.heap.size, tqT (z, x, y), 30)]) := Lib.hid (HG.out.h.pick [1] _ rfl)
    refine wp_region_line (S := fun w' => Held w' [(w.heap.size, tqT (z, x, y), 30)]) [(true, 0), (false, 1), (true, 2), (false, 3), (true, 4), (false, 5), (false, 6), (false, 7), (false, 8)] (by kernel_rfl) (by kernel_rfl) HS.out ?_
    refine sq_ld (some 10) (ld_mid' (D := tqT (z, x, y)) (k := 0) Try.underlying30 rfl Try.infoPq (.head _) rfl) (by kernel_rfl) ?_
    refine sq_c (some 11) Try.func22 (in11_x (z, x, y) _ HF.out.1) (by kernel_rfl) ?_
    rintro e v2 ⟨Aa1, na1, ca1, Aa2, na2, ca2, Aa3, na3, ca3, Aa4, na4, ca4, rfl, k1, k2, k3, k4, bw⟩
    have Xa := Lib.hid (in11_pt (q := (z, x, y)) k1 k2 k3 k4)
    clear k1 k2 k3 k4
    rw [HQa.out] at Xa
    replace HG := Lib.hid (HG.out.on bw)
    clear bw
    refine ⟨_, rfl, (HG.out.h.pick [1] _ rfl), ?_⟩
    refine sq_ps [(2, .int .i64 id)] (by kernel_rfl) ?_
    refine sq_c (some 13) Try.func33 (HCu.out _) (by kernel_rfl) ?_
    rintro e v3 ⟨rfl, bw⟩
    replace HG := Lib.hid (HG.out.on bw)
    replace Xa := Lib.hid (Xa.out.below bw)
    clear bw
    refine ⟨_, rfl, (HG.out.h.pick [1] _ rfl), ?_⟩
    refine sq_ps [(4, .string tp)] (by kernel_rfl) ?_
    refine sq_c (some 15) Try.func24 (in_v tp _ HP.out) (by kernel_rfl) ?_
    rintro e v4 ⟨Ap1, np1, cp1, rfl, k1, bw⟩
    replace HG := Lib.hid (HG.out.on bw)
    replace Xa := Lib.hid (Xa.out.below bw)
    clear bw
    have Xp1 := Lib.hid k1
    clear k1
    refine ⟨_, rfl, (HG.out.h.pick [1] _ rfl), ?_⟩
    refine sq_c (some 16) Try.func32 (lneg10_x Xa.out Xp1.out HF.out.2.1 HF.out.2.2) (by kernel_rfl) ?_
    rintro e v5 ⟨va, rfl, kx, bw⟩
    replace HG := Lib.hid (HG.out.on bw)
    replace Xa := Lib.hid (Xa.out.below bw)
    replace Xp1 := Lib.hid (Xp1.out.below bw)
    clear bw
    have Xs := Lib.hid kx
    clear kx
    refine ⟨_, rfl, (HG.out.h.pick [1] _ rfl), ?_⟩
    refine sq_c (some 17) Try.func31 (out11_x Xs.out HM.out) (by kernel_rfl) ?_
    rintro e v6 ⟨rfl, bw⟩
    replace HG := Lib.hid (HG.out.on bw)
    replace Xa := Lib.hid (Xa.out.below bw)
    replace Xp1 := Lib.hid (Xp1.out.below bw)
    replace Xs := Lib.hid (Xs.out.below bw)
    clear bw
    refine ⟨_, rfl, (HG.out.h.pick [1] _ rfl), ?_⟩
    have HN := Lib.hid (HG.out.at 0 rfl)
    replace HG : Hid (Blks w (v6.setRow (w.heap.size + 1) (tqT (txt4 (minusP (gV tp) Qa)))) [((w.heap.size + 1), tqT (txt4 (minusP (gV tp) Qa)), 30), (w.heap.size, tqT (z, x, y), 30)]) := Lib.hid (HG.out.put 0 rfl (tqT (txt4 (minusP (gV tp) Qa))))
    replace Xa := Lib.hid (Xa.out.setRow (C' := tqT (txt4 (minusP (gV tp) Qa))) HN.out (by decide))
    replace Xp1 := Lib.hid (Xp1.out.setRow (C' := tqT (txt4 (minusP (gV tp) Qa))) HN.out (by decide))
    replace Xs := Lib.hid (Xs.out.setRow (C' := tqT (txt4 (minusP (gV tp) Qa))) HN.out (by decide))
    refine sq_st 30 (w.heap.size + 1) (tqT (txt4 (minusP (gV tp) Qa))) HN.out Try.infoPq rfl (by kernel_rfl) (HG.out.h.pick [1] _ rfl) (by kernel_rfl) ?_
    clear HN
    generalize World.setRow _ (w.heap.size + 1) _ = t7 at *
    refine sq_done ?_
    refine (by assumption : ∀ (a : Act) (w_1 : World), Code.wp _ Code.ret _ a w_1 → _) _ _ ?_
    refine wp_ret ?_
    try refine wk_block ?_
    try refine wk_then ?_
    exact bodyPost_ret (results_cell_row Try.results14 _ _ (w.heap.size + 1) _ _ _ _ (by kernel_rfl) (HG.out.at 0 rfl) Try.underlying30 rfl Try.infoPq) (by kernel_rfl) ⟨rfl, HG.out.b⟩
end Go.Proofs.Ytdajgcgliidjbaa

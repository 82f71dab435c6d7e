import Derived.Test.YtdajgcgliidjbaaGreatZQb
import Derived.Test.YtdajgcgliidjbaaGreatZPLaw
import Derived.Test.YtdajgcgliidjbaaGreatVRoot
import Derived.Test.YtdajgcgliidjbaaGreatZAddB
import Derived.Test.YtdajgcgliidjbaaGreatYSpec
import Derived.Test.YtdajgcgliidjbaaGreatQMath
import Derived.Deep.LoopGhost
import Derived.Test.YtdajgcgliidjbaaGreatUOps
import Derived.Test.YtdajgcgliidjbaaGreatILow
import Derived.Test.YtdajgcgliidjbaaGreatXPairs
import Derived.Test.YtdajgcgliidjbaaGreatUInvs
set_option maxRecDepth 8000
set_option maxHeartbeats 4000000
namespace Go.Proofs.YtdajgcgliidjbaaGreat
open Go.RowKit
def vP2 (q : Value × Value) : Array Value := #[q.1, q.2]
def ptE (q : Bool × (Value × Value) × (Value × Value)) : Array Value := #[.bool q.1, q.2.1.1, q.2.1.2, q.2.2.1, q.2.2.2]
theorem built_ptE (z : Bool) (x y : Value × Value) : Tryz.prog.built 61 [(0, .bool z), (1, .agg (vP2 x)), (2, .agg (vP2 y))] = some (ptE (z, x, y)) := built_10 z x.1 x.2 y.1 y.2
theorem in7_v (x : Pt) (w : World) (h1 : x.1.size ≤ 1000000) (h2 : x.2.size ≤ 1000000) : Calls Tryz.prog 33 #[.agg (aggT x)] w fun e w' => ∃ A1 n1 c1 A2 n2 c2, e = .returned (.agg (vP2 (.slice A1 n1 c1, .slice A2 n2 c2))) ∧ RowX w' (.slice A1 n1 c1) (gV x.1) ∧ RowX w' (.slice A2 n2 c2) (gV x.2) ∧ Below w.heap.size w w' := by
 refine (in7_x x w h1 h2).mono ?_
 rintro e w' ⟨v, rfl, ⟨a, b, rfl, k1, k2⟩, bw⟩
 obtain ⟨A1, n1, c1, rfl⟩ := k1.shape
 obtain ⟨A2, n2, c2, rfl⟩ := k2.shape
 exact ⟨A1, n1, c1, A2, n2, c2, rfl, k1, k2, bw⟩
theorem in_v (s : ByteArray) (w : World) (h : s.size ≤ 1000000) : Calls Tryz.prog 34 #[.string s] w fun e w' => ∃ A n c, e = .returned (.slice A n c) ∧ RowX w' (.slice A n c) (gV s) ∧ Below w.heap.size w w' := by
 refine (in_x s w h).mono ?_
 rintro e w' ⟨v, rfl, k1, bw⟩
 obtain ⟨A1, n1, c1, rfl⟩ := k1.shape
 exact ⟨A1, n1, c1, rfl, k1, bw⟩
theorem PtX.setRow {w : World} {v : Value} {Q : P2} {g : Nat} {C C' : Array Value} {t : TypeId} (h : PtX w v Q) (hg : w.heap[g]? = some (.cells C t (0, 0))) (ht : t ≠ 3) : PtX (w.setRow g C') v Q := by
 cases Q with
 | none => exact h
 | some A =>
  obtain ⟨xa, xb, ya, yb, e, h1, h2, h3, h4⟩ := h
  exact ⟨xa, xb, ya, yb, e, RowX.setRow h1 hg ht, RowX.setRow h2 hg ht, RowX.setRow h3 hg ht, RowX.setRow h4 hg ht⟩
def Sm4 (q : Tq) : Prop := (q.2.1.1.size ≤ 1000000 ∧ q.2.1.2.size ≤ 1000000) ∧ (q.2.2.1.size ≤ 1000000 ∧ q.2.2.2.size ≤ 1000000)
theorem in11_x (q : Tq) (w : World) (h : Sm4 q) : Calls Tryz.prog 32 #[.agg (tqT q)] w fun e w' => ∃ A1 n1 c1 A2 n2 c2 A3 n3 c3 A4 n4 c4, e = .returned (.agg (ptE (q.1, (.slice A1 n1 c1, .slice A2 n2 c2), (.slice A3 n3 c3, .slice A4 n4 c4)))) ∧ RowX w' (.slice A1 n1 c1) (gV q.2.1.1) ∧ RowX w' (.slice A2 n2 c2) (gV q.2.1.2) ∧ RowX w' (.slice A3 n3 c3) (gV q.2.2.1) ∧ RowX w' (.slice A4 n4 c4) (gV q.2.2.2) ∧ Below w.heap.size w w' := by
 have HI := Lib.hid h
 clear h
 unfold Sm4 at HI
 obtain ⟨z, x, y⟩ := q
 simp only at HI
 have HG := Lib.hid (blks2 w (tqT (z, x, y)) (#[.bool false, .slice none 0 0, .slice none 0 0, .slice none 0 0, .slice none 0 0]) 27 61)
 go_enter Tryz.func32, Tryz.ntmps32
 go_upto_region 1 with (fail)
 generalize (w.alloc _).alloc _ = w0 at *
 replace HG : Hid (Blks w w0 [(w.heap.size + 1, ptE (false, (.slice none 0 0, .slice none 0 0), (.slice none 0 0, .slice none 0 0)), 61), (w.heap.size, tqT (z, x, y), 27)]) := HG
 have HS := Lib.hid HG.out.h
 replace HS : Hid (Held w0 [(w.heap.size, tqT (z, x, y), 27)]) := Lib.hid (HG.out.h.pick [1] _ rfl)
 replace HG := Lib.hid HG.out.drew
 replace HS := Lib.hid HS.out.drew
 refine sq_gok (S := fun w' => Held w' [(w.heap.size, tqT (z, x, y), 27)]) [(true, 0), (true, 1), (true, 2), (true, 3), (true, 5), (true, 6), (false, 4), (false, 7), (true, 8), (false, 9)] HS.out ?_
 refine sq_psk [(0, .pointer (some ⟨w.heap.size, 0, none⟩))] ?_
 refine sq_ldk (some 4) (wk_b (.head _) (k := 0) rfl) ?_
 refine sq_psk [(2, .pointer (some ⟨w.heap.size, 1, none⟩))] ?_
 refine sq_ldk (some 6) (ld_mid' (D := aggT x) (k := 1) Tryz.underlying25 rfl Tryz.infoP (.head _) rfl) ?_
 refine sq_psk [(5, .pointer (some ⟨w.heap.size, 3, none⟩))] ?_
 refine sq_ldk (some 9) (ld_mid' (D := aggT y) (k := 3) Tryz.underlying25 rfl Tryz.infoP (.head _) rfl) ?_
 refine sq_ck (some 7) Tryz.func33 (in7_v x _ HI.out.1.1 HI.out.1.2) ?_
 rintro e v1 ⟨Ax1, nx1, cx1, Ax2, nx2, cx2, rfl, k1, k2, bw⟩
 replace HG := Lib.hid (HG.out.on bw)
 clear bw
 have Xx1 := Lib.hid k1
 have Xx2 := Lib.hid k2
 clear k1 k2
 refine ⟨_, rfl, (HG.out.h.pick [1] _ rfl), ?_⟩
 refine sq_ck (some 10) Tryz.func33 (in7_v y _ HI.out.2.1 HI.out.2.2) ?_
 rintro e v2 ⟨Ay1, ny1, cy1, Ay2, ny2, cy2, rfl, k1, k2, bw⟩
 replace HG := Lib.hid (HG.out.on bw)
 replace Xx1 := Lib.hid (Xx1.out.below bw)
 replace Xx2 := Lib.hid (Xx2.out.below bw)
 clear bw
 have Xy1 := Lib.hid k1
 have Xy2 := Lib.hid k2
 clear k1 k2
 refine ⟨_, rfl, (HG.out.h.pick [1] _ rfl), ?_⟩
 refine sq_pure (some 11) (.agg (ptE (z, (.slice Ax1 nx1 cx1, .slice Ax2 nx2 cx2), (.slice Ay1 ny1 cy1, .slice Ay2 ny2 cy2)))) (by kernel_rfl) (by kernel_rfl) (held_build 61 #[(0, (.tmp 4)), (1, (.tmp 7)), (2, (.tmp 10))] (by kernel_rfl) _ (by kernel_rfl) _ (built_ptE _ _ _)) ?_
 have HN := Lib.hid (HG.out.at 0 rfl)
 replace HG : Hid (Blks w (v2.setRow (w.heap.size + 1) (ptE (z, (.slice Ax1 nx1 cx1, .slice Ax2 nx2 cx2), (.slice Ay1 ny1 cy1, .slice Ay2 ny2 cy2)))) [((w.heap.size + 1), ptE (z, (.slice Ax1 nx1 cx1, .slice Ax2 nx2 cx2), (.slice Ay1 ny1 cy1, .slice Ay2 ny2 cy2)), 61), (w.heap.size, tqT (z, x, y), 27)]) := Lib.hid (HG.out.put 0 rfl (ptE (z, (.slice Ax1 nx1 cx1, .slice Ax2 nx2 cx2), (.slice Ay1 ny1 cy1, .slice Ay2 ny2 cy2))))
 replace Xx1 := Lib.hid (Xx1.out.setRow (C' := ptE (z, (.slice Ax1 nx1 cx1, .slice Ax2 nx2 cx2), (.slice Ay1 ny1 cy1, .slice Ay2 ny2 cy2))) HN.out (by decide))
 replace Xx2 := Lib.hid (Xx2.out.setRow (C' := ptE (z, (.slice Ax1 nx1 cx1, .slice Ax2 nx2 cx2), (.slice Ay1 ny1 cy1, .slice Ay2 ny2 cy2))) HN.out (by decide))
 replace Xy1 := Lib.hid (Xy1.out.setRow (C' := ptE (z, (.slice Ax1 nx1 cx1, .slice Ax2 nx2 cx2), (.slice Ay1 ny1 cy1, .slice Ay2 ny2 cy2))) HN.out (by decide))
 replace Xy2 := Lib.hid (Xy2.out.setRow (C' := ptE (z, (.slice Ax1 nx1 cx1, .slice Ax2 nx2 cx2), (.slice Ay1 ny1 cy1, .slice Ay2 ny2 cy2))) HN.out (by decide))
 refine sq_stk 61 (w.heap.size + 1) (ptE (z, (.slice Ax1 nx1 cx1, .slice Ax2 nx2 cx2), (.slice Ay1 ny1 cy1, .slice Ay2 ny2 cy2))) HN.out Tryz.infoPt10 rfl (HG.out.h.pick [1] _ rfl) ?_
 clear HN
 generalize World.setRow _ (w.heap.size + 1) _ = t3 at *
 refine sq_done ?_
 refine ‹∀ a w, Code.wp _ Code.ret _ a w → _› _ _ ?_
 refine wp_ret ?_
 try refine wk_block ?_
 try refine wk_then ?_
 exact bodyPost_ret (results_cell_row Tryz.results32 _ _ (w.heap.size + 1) _ _ _ _ (by kernel_rfl) (HG.out.at 0 rfl) Tryz.underlying61 rfl Tryz.infoPt10) (by kernel_rfl) ⟨Ax1, nx1, cx1, Ax2, nx2, cx2, Ay1, ny1, cy1, Ay2, ny2, cy2, rfl, Xx1.out, Xx2.out, Xy1.out, Xy2.out, HG.out.b⟩
theorem in11_pt {w : World} {q : Tq} {A1 A2 A3 A4 : Option Addr} {n1 c1 n2 c2 n3 c3 n4 c4 : Nat} (h1 : RowX w (.slice A1 n1 c1) (gV q.2.1.1)) (h2 : RowX w (.slice A2 n2 c2) (gV q.2.1.2)) (h3 : RowX w (.slice A3 n3 c3) (gV q.2.2.1)) (h4 : RowX w (.slice A4 n4 c4) (gV q.2.2.2)) : PtX w (.agg (ptE (q.1, (.slice A1 n1 c1, .slice A2 n2 c2), (.slice A3 n3 c3, .slice A4 n4 c4)))) (val4 q) := by
 obtain ⟨z, x, y⟩ := q
 cases z with
 | true => exact ⟨_, _, _, _, _, _, _, _, _, _, _, _, rfl⟩
 | false => exact ⟨_, _, _, _, rfl, h1, h2, h3, h4⟩
theorem pair_sm {id : Int} {q : Tq} (h : pairPtB id q = true) : Sm4 q := by
 have F := pair_fit h
 have g : ∀ {s : ByteArray}, okG s = true → s.size ≤ 1000000 := fun {s} k => by have := okG_size k; omega
 exact ⟨⟨g F.x.1, g F.x.2⟩, ⟨g F.y.1, g F.y.2⟩⟩
theorem out11_x {w : World} {v : Value} {Q : P2} (h : PtX w v Q) (hb : ∀ A, Q = some A → (A.1.1 < SM ∧ A.1.2 < SM) ∧ (A.2.1 < SM ∧ A.2.2 < SM)) : Calls Tryz.prog 46 #[v] w fun e w' => e = .returned (.agg (tqT (txt4 Q))) ∧ Below w.heap.size w w' := by
 cases Q with
 | none =>
  obtain ⟨A1, n1, c1, A2, n2, c2, A3, n3, c3, A4, n4, c4, rfl⟩ := h
  change Calls _ _ #[.agg (ptE (true, (.slice A1 n1 c1, .slice A2 n2 c2), (.slice A3 n3 c3, .slice A4 n4 c4)))] _ _
  clear hb
  unfold txt4 zeroQ
  have HG := Lib.hid (blks2 w (ptE (true, (.slice A1 n1 c1, .slice A2 n2 c2), (.slice A3 n3 c3, .slice A4 n4 c4))) (#[.bool false, .string ⟨#[]⟩, .string ⟨#[]⟩, .string ⟨#[]⟩, .string ⟨#[]⟩]) 61 27)
  go_enter Tryz.func46, Tryz.ntmps46
  go_upto_region 1 with (fail)
  generalize (w.alloc _).alloc _ = w0 at *
  replace HG : Hid (Blks w w0 [(w.heap.size + 1, tqT (false, noP, noP), 27), (w.heap.size, ptE (true, (.slice A1 n1 c1, .slice A2 n2 c2), (.slice A3 n3 c3, .slice A4 n4 c4)), 61)]) := HG
  have HS := Lib.hid HG.out.h
  replace HS : Hid (Held w0 [((w.heap.size + 1), tqT (false, noP, noP), 27), (w.heap.size, ptE (true, (.slice A1 n1 c1, .slice A2 n2 c2), (.slice A3 n3 c3, .slice A4 n4 c4)), 61)]) := Lib.hid (HG.out.h.pick [0, 1] _ rfl)
  refine wp_region_linek (S := fun w' => Held w' [((w.heap.size + 1), tqT (false, noP, noP), 27), (w.heap.size, ptE (true, (.slice A1 n1 c1, .slice A2 n2 c2), (.slice A3 n3 c3, .slice A4 n4 c4)), 61)]) [(true, 0), (true, 1)] HS.out ?_
  refine sq_psk [(0, .pointer (some ⟨w.heap.size, 0, none⟩))] ?_
  refine sq_ldk (some 4) (wk_b (.tail _ (.head _)) (k := 0) rfl) ?_
  refine sq_fink { tmps := List.toArray ([.agg (ptE (true, (.slice A1 n1 c1, .slice A2 n2 c2), (.slice A3 n3 c3, .slice A4 n4 c4))), .pointer (some ⟨w.heap.size, 0, none⟩), .pointer (some ⟨(w.heap.size + 1), 0, none⟩), .pointer (some ⟨w.heap.size, 0, none⟩), .bool true, undef, undef, undef, undef, undef, undef, undef, undef]), defers := [] } ?_
  refine ‹∀ a w, Code.wp _ _ _ a w → _› _ _ ?_
  go_upto_region 2 with (fail)
  replace HS : Hid (Held w0 [(w.heap.size, ptE (true, (.slice A1 n1 c1, .slice A2 n2 c2), (.slice A3 n3 c3, .slice A4 n4 c4)), 61)]) := Lib.hid (HG.out.h.pick [1] _ rfl)
  refine wp_region_linek (S := fun w' => Held w' [(w.heap.size, ptE (true, (.slice A1 n1 c1, .slice A2 n2 c2), (.slice A3 n3 c3, .slice A4 n4 c4)), 61)]) [(true, 0), (false, 1)] HS.out ?_
  refine sq_pure (some 5) (.agg (tqT (true, noP, noP))) (by kernel_rfl) (by kernel_rfl) (held_build 27 #[(0, (.const (.bool true)))] (by kernel_rfl) _ (by kernel_rfl) _ (built_pq_z _)) ?_
  have HN := Lib.hid (HG.out.at 0 rfl)
  replace HG : Hid (Blks w (w0.setRow (w.heap.size + 1) (tqT (true, noP, noP))) [((w.heap.size + 1), tqT (true, noP, noP), 27), (w.heap.size, ptE (true, (.slice A1 n1 c1, .slice A2 n2 c2), (.slice A3 n3 c3, .slice A4 n4 c4)), 61)]) := Lib.hid (HG.out.put 0 rfl (tqT (true, noP, noP)))
  refine sq_stk 27 (w.heap.size + 1) (tqT (true, noP, noP)) HN.out Tryz.infoPq rfl (HG.out.h.pick [1] _ rfl) ?_
  clear HN
  generalize World.setRow _ (w.heap.size + 1) _ = t1 at *
  refine sq_done ?_
  refine ‹∀ a w, Code.wp _ Code.ret _ a w → _› _ _ ?_
  refine wp_ret ?_
  try refine wk_block ?_
  try refine wk_then ?_
  exact bodyPost_ret (results_cell_row Tryz.results46 _ _ (w.heap.size + 1) _ _ _ _ (by kernel_rfl) (HG.out.at 0 rfl) Tryz.underlying27 rfl Tryz.infoPq) (by kernel_rfl) ⟨rfl, HG.out.b⟩
 | some A =>
  obtain ⟨a, b⟩ := A
  obtain ⟨xa, xb, ya, yb, rfl, h1, h2, h3, h4⟩ := h
  have X1 := Lib.hid h1
  have X2 := Lib.hid h2
  have X3 := Lib.hid h3
  have X4 := Lib.hid h4
  have HB := Lib.hid (hb _ rfl)
  obtain ⟨A1, n1, c1, rfl⟩ := h1.shape
  obtain ⟨A2, n2, c2, rfl⟩ := h2.shape
  obtain ⟨A3, n3, c3, rfl⟩ := h3.shape
  obtain ⟨A4, n4, c4, rfl⟩ := h4.shape
  change Calls _ _ #[.agg (ptE (false, (.slice A1 n1 c1, .slice A2 n2 c2), (.slice A3 n3 c3, .slice A4 n4 c4)))] _ _
  clear h1 h2 h3 h4 hb
  unfold txt4
  simp only at X1 X2 X3 X4 HB ⊢
  have HG := Lib.hid (blks2 w (ptE (false, (.slice A1 n1 c1, .slice A2 n2 c2), (.slice A3 n3 c3, .slice A4 n4 c4))) (#[.bool false, .string ⟨#[]⟩, .string ⟨#[]⟩, .string ⟨#[]⟩, .string ⟨#[]⟩]) 61 27)
  go_enter Tryz.func46, Tryz.ntmps46
  go_upto_region 1 with (fail)
  generalize (w.alloc _).alloc _ = w0 at *
  replace HG : Hid (Blks w w0 [(w.heap.size + 1, tqT (false, noP, noP), 27), (w.heap.size, ptE (false, (.slice A1 n1 c1, .slice A2 n2 c2), (.slice A3 n3 c3, .slice A4 n4 c4)), 61)]) := HG
  have HS := Lib.hid HG.out.h
  replace X1 := Lib.hid (X1.out.below HG.out.b)
  replace X2 := Lib.hid (X2.out.below HG.out.b)
  replace X3 := Lib.hid (X3.out.below HG.out.b)
  replace X4 := Lib.hid (X4.out.below HG.out.b)
  replace HS : Hid (Held w0 [((w.heap.size + 1), tqT (false, noP, noP), 27), (w.heap.size, ptE (false, (.slice A1 n1 c1, .slice A2 n2 c2), (.slice A3 n3 c3, .slice A4 n4 c4)), 61)]) := Lib.hid (HG.out.h.pick [0, 1] _ rfl)
  refine wp_region_linek (S := fun w' => Held w' [((w.heap.size + 1), tqT (false, noP, noP), 27), (w.heap.size, ptE (false, (.slice A1 n1 c1, .slice A2 n2 c2), (.slice A3 n3 c3, .slice A4 n4 c4)), 61)]) [(true, 0), (true, 1)] HS.out ?_
  refine sq_psk [(0, .pointer (some ⟨w.heap.size, 0, none⟩))] ?_
  refine sq_ldk (some 4) (wk_b (.tail _ (.head _)) (k := 0) rfl) ?_
  refine sq_fink { tmps := List.toArray ([.agg (ptE (false, (.slice A1 n1 c1, .slice A2 n2 c2), (.slice A3 n3 c3, .slice A4 n4 c4))), .pointer (some ⟨w.heap.size, 0, none⟩), .pointer (some ⟨(w.heap.size + 1), 0, none⟩), .pointer (some ⟨w.heap.size, 0, none⟩), .bool false, undef, undef, undef, undef, undef, undef, undef, undef]), defers := [] } ?_
  refine ‹∀ a w, Code.wp _ _ _ a w → _› _ _ ?_
  go_upto_region 3 with (fail)
  replace HS : Hid (Held w0 [(w.heap.size, ptE (false, (.slice A1 n1 c1, .slice A2 n2 c2), (.slice A3 n3 c3, .slice A4 n4 c4)), 61)]) := Lib.hid (HG.out.h.pick [1] _ rfl)
  replace HG := Lib.hid HG.out.drew
  replace X1 := Lib.hid (X1.out.below (belowD w0))
  replace X2 := Lib.hid (X2.out.below (belowD w0))
  replace X3 := Lib.hid (X3.out.below (belowD w0))
  replace X4 := Lib.hid (X4.out.below (belowD w0))
  replace HS := Lib.hid HS.out.drew
  refine sq_gok (S := fun w' => Held w' [(w.heap.size, ptE (false, (.slice A1 n1 c1, .slice A2 n2 c2), (.slice A3 n3 c3, .slice A4 n4 c4)), 61)]) [(true, 0), (true, 1), (true, 3), (true, 4), (false, 2), (false, 5), (true, 6), (false, 7)] HS.out ?_
  refine sq_psk [(0, .pointer (some ⟨w.heap.size, 1, none⟩))] ?_
  refine sq_ldk (some 7) (ld_mid' (D := vP2 (.slice A1 n1 c1, .slice A2 n2 c2)) (k := 1) Tryz.underlying59 rfl Tryz.info7 (.head _) rfl) ?_
  refine sq_psk [(3, .pointer (some ⟨w.heap.size, 3, none⟩))] ?_
  refine sq_ldk (some 10) (ld_mid' (D := vP2 (.slice A3 n3 c3, .slice A4 n4 c4)) (k := 3) Tryz.underlying59 rfl Tryz.info7 (.head _) rfl) ?_
  refine sq_ck (some 8) Tryz.func81 (out7_x (v := .agg (vP2 (.slice A1 n1 c1, .slice A2 n2 c2))) ⟨_, _, rfl, X1.out, X2.out⟩ HB.out.1.1 HB.out.1.2) ?_
  rintro e v1 ⟨rfl, bw⟩
  replace HG := Lib.hid (HG.out.on bw)
  replace X1 := Lib.hid (X1.out.below bw)
  replace X2 := Lib.hid (X2.out.below bw)
  replace X3 := Lib.hid (X3.out.below bw)
  replace X4 := Lib.hid (X4.out.below bw)
  clear bw
  refine ⟨_, rfl, (HG.out.h.pick [1] _ rfl), ?_⟩
  refine sq_ck (some 11) Tryz.func81 (out7_x (v := .agg (vP2 (.slice A3 n3 c3, .slice A4 n4 c4))) ⟨_, _, rfl, X3.out, X4.out⟩ HB.out.2.1 HB.out.2.2) ?_
  rintro e v2 ⟨rfl, bw⟩
  replace HG := Lib.hid (HG.out.on bw)
  replace X1 := Lib.hid (X1.out.below bw)
  replace X2 := Lib.hid (X2.out.below bw)
  replace X3 := Lib.hid (X3.out.below bw)
  replace X4 := Lib.hid (X4.out.below bw)
  clear bw
  refine ⟨_, rfl, (HG.out.h.pick [1] _ rfl), ?_⟩
  refine sq_pure (some 12) (.agg (tqT (false, (txtP a), (txtP b)))) (by kernel_rfl) (by kernel_rfl) (held_build 27 #[(1, (.tmp 8)), (2, (.tmp 11))] (by kernel_rfl) _ (by kernel_rfl) _ (built_pq2 _ _)) ?_
  have HN := Lib.hid (HG.out.at 0 rfl)
  replace HG : Hid (Blks w (v2.setRow (w.heap.size + 1) (tqT (false, (txtP a), (txtP b)))) [((w.heap.size + 1), tqT (false, (txtP a), (txtP b)), 27), (w.heap.size, ptE (false, (.slice A1 n1 c1, .slice A2 n2 c2), (.slice A3 n3 c3, .slice A4 n4 c4)), 61)]) := Lib.hid (HG.out.put 0 rfl (tqT (false, (txtP a), (txtP b))))
  replace X1 := Lib.hid (X1.out.setRow (C' := tqT (false, (txtP a), (txtP b))) HN.out (by decide))
  replace X2 := Lib.hid (X2.out.setRow (C' := tqT (false, (txtP a), (txtP b))) HN.out (by decide))
  replace X3 := Lib.hid (X3.out.setRow (C' := tqT (false, (txtP a), (txtP b))) HN.out (by decide))
  replace X4 := Lib.hid (X4.out.setRow (C' := tqT (false, (txtP a), (txtP b))) HN.out (by decide))
  refine sq_stk 27 (w.heap.size + 1) (tqT (false, (txtP a), (txtP b))) HN.out Tryz.infoPq rfl (HG.out.h.pick [1] _ rfl) ?_
  clear HN
  generalize World.setRow _ (w.heap.size + 1) _ = t3 at *
  refine sq_done ?_
  refine ‹∀ a w, Code.wp _ Code.ret _ a w → _› _ _ ?_
  refine wp_ret ?_
  try refine wk_block ?_
  try refine wk_then ?_
  exact bodyPost_ret (results_cell_row Tryz.results46 _ _ (w.heap.size + 1) _ _ _ _ (by kernel_rfl) (HG.out.at 0 rfl) Tryz.underlying27 rfl Tryz.infoPq) (by kernel_rfl) ⟨rfl, HG.out.b⟩
theorem none_dec (x : Pt) : decide (x = noP) = noneP x := by
 cases h : noneP x with
 | true => exact decide_eq_true (none_p.1 h)
 | false => exact decide_eq_false (fun e => by rw [none_p.2 e] at h; cases h)
theorem pairPointOk_any (id : Int) (q : Tq) (w : World) : Calls Tryz.prog 8 #[.int .i64 id, .agg (tqT q)] w fun e w' => e = .returned (.bool (pairPtB id q)) ∧ Below w.heap.size w w' := by
 obtain ⟨z, x, y⟩ := q
 have HK := Lib.hid (curveOf_any id)
 unfold pairPtB
 simp only
 cases hb : cvB id with
 | false =>
  rw [hb] at HK
  rw [Bool.false_and]
  clear hb
  simp only [cvE_eq] at HK
  generalize cvNT id = tn at *
  generalize cvPT id = tp at *
  generalize cvRT id = tr at *
  generalize cvBT id = tb at *
  generalize cvKT id = tk at *
  generalize cvSz id = sz at *
  generalize cvSc id = sc at *
  generalize cvBr id = br at *
  have HG := Lib.hid (blks1 w (tqT (z, x, y)) 27)
  go_enter Tryz.func8, Tryz.ntmps8
  go_upto_region 1 with (fail)
  generalize w.alloc _ = w0 at *
  have HS := Lib.hid HG.out.h
  replace HS : Hid (Held w0 [(w.heap.size, tqT (z, x, y), 27)]) := Lib.hid (HG.out.h.pick [0] _ rfl)
  refine wp_region_linek (S := fun w' => Held w' [(w.heap.size, tqT (z, x, y), 27)]) [(true, 0), (false, 1), (true, 2), (true, 3), (true, 4), (false, 5), (false, 6), (true, 7)] HS.out ?_
  refine sq_psk [(0, .int .i64 id)] ?_
  refine sq_ck (some 9) Tryz.func14 (HK.out _) ?_
  rintro e v1 ⟨rfl, bw⟩
  replace HG := Lib.hid (HG.out.on bw)
  clear bw
  refine ⟨_, rfl, (HG.out.h.pick [0] _ rfl), ?_⟩
  refine sq_psk [(2, .tuple #[.agg (cvE (tn, tp, tr, tb, tk, sz, sc, br)), .bool false]), (3, .agg (cvE (tn, tp, tr, tb, tk, sz, sc, br))), (4, .bool false)] ?_
  replace HG := Lib.hid (HG.out.new (cvE (⟨#[]⟩, ⟨#[]⟩, ⟨#[]⟩, ⟨#[]⟩, noP, 0, 0, false)) 35)
  refine sq_allock (some 5) 35 (cvE (⟨#[]⟩, ⟨#[]⟩, ⟨#[]⟩, ⟨#[]⟩, noP, 0, 0, false)) (zero_cv _) (HG.out.h.pick [1] _ rfl) ?_
  generalize v1.alloc _ = u2 at *
  generalize v1.heap.size = g2 at *
  have HN := Lib.hid (HG.out.at 0 rfl)
  replace HG : Hid (Blks w (u2.setRow g2 (cvE (tn, tp, tr, tb, tk, sz, sc, br))) [(g2, cvE (tn, tp, tr, tb, tk, sz, sc, br), 35), (w.heap.size, tqT (z, x, y), 27)]) := Lib.hid (HG.out.put 0 rfl (cvE (tn, tp, tr, tb, tk, sz, sc, br)))
  refine sq_stk 35 g2 (cvE (tn, tp, tr, tb, tk, sz, sc, br)) HN.out Tryz.infoCv rfl (HG.out.h.pick [1] _ rfl) ?_
  clear HN
  generalize World.setRow _ g2 _ = t3 at *
  refine sq_psk [(7, .bool false)] ?_
  refine sq_fink { tmps := List.toArray (List.append [.int .i64 id, .agg (tqT (z, x, y)), undef, .pointer (some ⟨w.heap.size, 0, none⟩), .bool false, .pointer (some ⟨g2, 0, none⟩), .bool false, .tuple #[.agg (cvE (tn, tp, tr, tb, tk, sz, sc, br)), .bool false], .int .i64 id, .tuple #[.agg (cvE (tn, tp, tr, tb, tk, sz, sc, br)), .bool false], .agg (cvE (tn, tp, tr, tb, tk, sz, sc, br)), .bool false, undef, undef, undef, undef, undef, undef, undef, undef, undef, undef, undef, undef, undef, undef, undef, undef, undef, undef, undef, undef, undef, undef, undef, undef, undef, undef, undef, undef] ([undef, undef, undef, undef, undef, undef, undef, undef, undef, undef, undef, undef, undef, undef])), defers := [] } ?_
  refine ‹∀ a w, Code.wp _ _ _ a w → _› _ _ ?_
  go_upto_region 2 with (fail)
  replace HS : Hid (Held t3 [(g2, cvE (tn, tp, tr, tb, tk, sz, sc, br), 35), (w.heap.size, tqT (z, x, y), 27)]) := Lib.hid (HG.out.h.pick [0, 1] _ rfl)
  refine wp_region_linek (S := fun w' => Held w' [(g2, cvE (tn, tp, tr, tb, tk, sz, sc, br), 35), (w.heap.size, tqT (z, x, y), 27)]) [(true, 0), (true, 1), (true, 2), (true, 3), (true, 4), (true, 5)] HS.out ?_
  refine SQ.out ?_
  refine g_psk [(0, .bool false), (1, .bool true), (2, .bool true)] ?_
  refine g_nok [3, 4] ?_
  refine g_psk [(5, .bool true)] ?_
  refine g_normk { tmps := List.toArray (List.append [.int .i64 id, .agg (tqT (z, x, y)), undef, .pointer (some ⟨w.heap.size, 0, none⟩), .bool false, .pointer (some ⟨g2, 0, none⟩), .bool false, .tuple #[.agg (cvE (tn, tp, tr, tb, tk, sz, sc, br)), .bool false], .int .i64 id, .tuple #[.agg (cvE (tn, tp, tr, tb, tk, sz, sc, br)), .bool false], .agg (cvE (tn, tp, tr, tb, tk, sz, sc, br)), .bool false, .bool false, .bool true, .bool true, undef, undef, .bool true, undef, undef, undef, undef, undef, undef, undef, undef, undef, undef, undef, undef, undef, undef, undef, undef, undef, undef, undef, undef, undef, undef] ([undef, undef, undef, undef, undef, undef, undef, undef, undef, undef, undef, undef, undef, undef])), defers := [] } ?_
  refine g_done ?_
  refine ‹∀ a w, Code.wp _ _ _ a w → _› _ _ ?_
  go_upto_region 3 with (fail)
  replace HS : Hid (Held t3 [(g2, cvE (tn, tp, tr, tb, tk, sz, sc, br), 35), (w.heap.size, tqT (z, x, y), 27)]) := Lib.hid (HG.out.h.pick [0, 1] _ rfl)
  refine wp_region_linek (S := fun w' => Held w' [(g2, cvE (tn, tp, tr, tb, tk, sz, sc, br), 35), (w.heap.size, tqT (z, x, y), 27)]) [(true, 0), (true, 1), (true, 2), (true, 3), (true, 4), (true, 5), (true, 6), (true, 7), (true, 8), (true, 9), (true, 10), (true, 11), (true, 12), (true, 13)] HS.out ?_
  refine SQ.out ?_
  refine g_psk [(0, .bool false), (1, .bool false)] ?_
  refine g_nok [2, 3, 4, 5] ?_
  refine g_psk [(6, .bool false), (7, .bool false)] ?_
  refine g_nok [8, 9, 10, 11] ?_
  refine g_psk [(12, .bool false), (13, .bool false)] ?_
  refine g_done ?_
  refine ‹∀ a w, Code.wp _ Code.ret _ a w → _› _ _ ?_
  refine wp_ret ?_
  try refine wk_block ?_
  try refine wk_then ?_
  exact wk_ret (v := .bool false) Tryz.results8 (by kernel_rfl) (by kernel_rfl) ⟨rfl, HG.out.b⟩
 | true =>
 rw [hb] at HK
 rw [Bool.true_and]
 cases z with
 | true =>
  rw [if_pos rfl]
  clear hb
  have H2 := Lib.hid (none_dec y)
  generalize noneP y = b2 at *
  have H1 := Lib.hid (none_dec x)
  cases h1 : noneP x with
  | false =>
   rw [h1] at H1
   rw [Bool.false_and]
   clear h1
   simp only [cvE_eq] at HK
   generalize cvNT id = tn at *
   generalize cvPT id = tp at *
   generalize cvRT id = tr at *
   generalize cvBT id = tb at *
   generalize cvKT id = tk at *
   generalize cvSz id = sz at *
   generalize cvSc id = sc at *
   generalize cvBr id = br at *
   have HG := Lib.hid (blks1 w (tqT (true, x, y)) 27)
   go_enter Tryz.func8, Tryz.ntmps8
   go_upto_region 1 with (fail)
   generalize w.alloc _ = w0 at *
   have HS := Lib.hid HG.out.h
   replace HS : Hid (Held w0 [(w.heap.size, tqT (true, x, y), 27)]) := Lib.hid (HG.out.h.pick [0] _ rfl)
   refine wp_region_linek (S := fun w' => Held w' [(w.heap.size, tqT (true, x, y), 27)]) [(true, 0), (false, 1), (true, 2), (true, 3), (true, 4), (false, 5), (false, 6), (true, 7)] HS.out ?_
   refine sq_psk [(0, .int .i64 id)] ?_
   refine sq_ck (some 9) Tryz.func14 (HK.out _) ?_
   rintro e v1 ⟨rfl, bw⟩
   replace HG := Lib.hid (HG.out.on bw)
   clear bw
   refine ⟨_, rfl, (HG.out.h.pick [0] _ rfl), ?_⟩
   refine sq_psk [(2, .tuple #[.agg (cvE (tn, tp, tr, tb, tk, sz, sc, br)), .bool true]), (3, .agg (cvE (tn, tp, tr, tb, tk, sz, sc, br))), (4, .bool true)] ?_
   replace HG := Lib.hid (HG.out.new (cvE (⟨#[]⟩, ⟨#[]⟩, ⟨#[]⟩, ⟨#[]⟩, noP, 0, 0, false)) 35)
   refine sq_allock (some 5) 35 (cvE (⟨#[]⟩, ⟨#[]⟩, ⟨#[]⟩, ⟨#[]⟩, noP, 0, 0, false)) (zero_cv _) (HG.out.h.pick [1] _ rfl) ?_
   generalize v1.alloc _ = u2 at *
   generalize v1.heap.size = g2 at *
   have HN := Lib.hid (HG.out.at 0 rfl)
   replace HG : Hid (Blks w (u2.setRow g2 (cvE (tn, tp, tr, tb, tk, sz, sc, br))) [(g2, cvE (tn, tp, tr, tb, tk, sz, sc, br), 35), (w.heap.size, tqT (true, x, y), 27)]) := Lib.hid (HG.out.put 0 rfl (cvE (tn, tp, tr, tb, tk, sz, sc, br)))
   refine sq_stk 35 g2 (cvE (tn, tp, tr, tb, tk, sz, sc, br)) HN.out Tryz.infoCv rfl (HG.out.h.pick [1] _ rfl) ?_
   clear HN
   generalize World.setRow _ g2 _ = t3 at *
   refine sq_psk [(7, .bool true)] ?_
   refine sq_fink { tmps := List.toArray (List.append [.int .i64 id, .agg (tqT (true, x, y)), undef, .pointer (some ⟨w.heap.size, 0, none⟩), .bool false, .pointer (some ⟨g2, 0, none⟩), .bool true, .tuple #[.agg (cvE (tn, tp, tr, tb, tk, sz, sc, br)), .bool true], .int .i64 id, .tuple #[.agg (cvE (tn, tp, tr, tb, tk, sz, sc, br)), .bool true], .agg (cvE (tn, tp, tr, tb, tk, sz, sc, br)), .bool true, undef, undef, undef, undef, undef, undef, undef, undef, undef, undef, undef, undef, undef, undef, undef, undef, undef, undef, undef, undef, undef, undef, undef, undef, undef, undef, undef, undef] ([undef, undef, undef, undef, undef, undef, undef, undef, undef, undef, undef, undef, undef, undef])), defers := [] } ?_
   refine ‹∀ a w, Code.wp _ _ _ a w → _› _ _ ?_
   go_upto_region 2 with (fail)
   replace HS : Hid (Held t3 [(g2, cvE (tn, tp, tr, tb, tk, sz, sc, br), 35), (w.heap.size, tqT (true, x, y), 27)]) := Lib.hid (HG.out.h.pick [0, 1] _ rfl)
   refine wp_region_linek (S := fun w' => Held w' [(g2, cvE (tn, tp, tr, tb, tk, sz, sc, br), 35), (w.heap.size, tqT (true, x, y), 27)]) [(true, 0), (true, 1), (true, 2), (true, 3), (true, 4), (true, 5)] HS.out ?_
   refine SQ.out ?_
   refine g_psk [(0, .bool true), (1, .bool false), (2, .bool false), (3, .pointer (some ⟨w.heap.size, 0, none⟩))] ?_
   refine g_ldk (some 16) (wk_b (.tail _ (.head _)) (k := 0) rfl) ?_
   refine g_psk [(5, .bool true)] ?_
   refine g_normk { tmps := List.toArray (List.append [.int .i64 id, .agg (tqT (true, x, y)), undef, .pointer (some ⟨w.heap.size, 0, none⟩), .bool false, .pointer (some ⟨g2, 0, none⟩), .bool true, .tuple #[.agg (cvE (tn, tp, tr, tb, tk, sz, sc, br)), .bool true], .int .i64 id, .tuple #[.agg (cvE (tn, tp, tr, tb, tk, sz, sc, br)), .bool true], .agg (cvE (tn, tp, tr, tb, tk, sz, sc, br)), .bool true, .bool true, .bool false, .bool false, .pointer (some ⟨w.heap.size, 0, none⟩), .bool true, .bool true, undef, undef, undef, undef, undef, undef, undef, undef, undef, undef, undef, undef, undef, undef, undef, undef, undef, undef, undef, undef, undef, undef] ([undef, undef, undef, undef, undef, undef, undef, undef, undef, undef, undef, undef, undef, undef])), defers := [] } ?_
   refine g_done ?_
   refine ‹∀ a w, Code.wp _ _ _ a w → _› _ _ ?_
   go_upto_region 3 with (fail)
   replace HS : Hid (Held t3 [(g2, cvE (tn, tp, tr, tb, tk, sz, sc, br), 35), (w.heap.size, tqT (true, x, y), 27)]) := Lib.hid (HG.out.h.pick [0, 1] _ rfl)
   refine wp_region_linek (S := fun w' => Held w' [(g2, cvE (tn, tp, tr, tb, tk, sz, sc, br), 35), (w.heap.size, tqT (true, x, y), 27)]) [(true, 0), (true, 1), (true, 2), (true, 3), (true, 4), (true, 5), (true, 6), (true, 7), (true, 8), (true, 9), (true, 10), (true, 11), (true, 12), (true, 13)] HS.out ?_
   refine SQ.out ?_
   refine g_psk [(0, .bool true), (1, .bool true), (2, .pointer (some ⟨w.heap.size, 1, none⟩))] ?_
   refine g_ldk (some 21) (ld_mid' (D := aggT x) (k := 1) Tryz.underlying25 rfl Tryz.infoP (.tail _ (.head _)) rfl) ?_
   refine g_pure (some 22) (.agg (aggT noP)) (by kernel_rfl) (wanted_by (g := 1) (b := true) (d := 19) (by kernel_rfl) (by kernel_rfl) (by kernel_rfl) (by kernel_rfl)) (held_build 25 #[] (by kernel_rfl) _ (by kernel_rfl) _ built_pair0) ?_
   refine g_take (some 23) (.bool false) (by kernel_rfl) (eq_pr (wanted_by (g := 1) (b := true) (d := 19) (by kernel_rfl) (by kernel_rfl) (by kernel_rfl) (by kernel_rfl)) (.tmp 21) (.tmp 22) (by kernel_rfl) x noP false H1.out (by kernel_rfl) (by kernel_rfl)) ?_
   refine g_psk [(6, .bool false), (7, .bool false)] ?_
   refine g_nok [8, 9, 10, 11] ?_
   refine g_psk [(12, .bool false), (13, .bool false)] ?_
   refine g_done ?_
   refine ‹∀ a w, Code.wp _ Code.ret _ a w → _› _ _ ?_
   refine wp_ret ?_
   try refine wk_block ?_
   try refine wk_then ?_
   exact wk_ret (v := .bool false) Tryz.results8 (by kernel_rfl) (by kernel_rfl) ⟨rfl, HG.out.b⟩
  | true =>
   rw [h1] at H1
   rw [Bool.true_and]
   clear h1
   simp only [cvE_eq] at HK
   generalize cvNT id = tn at *
   generalize cvPT id = tp at *
   generalize cvRT id = tr at *
   generalize cvBT id = tb at *
   generalize cvKT id = tk at *
   generalize cvSz id = sz at *
   generalize cvSc id = sc at *
   generalize cvBr id = br at *
   have HG := Lib.hid (blks1 w (tqT (true, x, y)) 27)
   go_enter Tryz.func8, Tryz.ntmps8
   go_upto_region 1 with (fail)
   generalize w.alloc _ = w0 at *
   have HS := Lib.hid HG.out.h
   replace HS : Hid (Held w0 [(w.heap.size, tqT (true, x, y), 27)]) := Lib.hid (HG.out.h.pick [0] _ rfl)
   refine wp_region_linek (S := fun w' => Held w' [(w.heap.size, tqT (true, x, y), 27)]) [(true, 0), (false, 1), (true, 2), (true, 3), (true, 4), (false, 5), (false, 6), (true, 7)] HS.out ?_
   refine sq_psk [(0, .int .i64 id)] ?_
   refine sq_ck (some 9) Tryz.func14 (HK.out _) ?_
   rintro e v1 ⟨rfl, bw⟩
   replace HG := Lib.hid (HG.out.on bw)
   clear bw
   refine ⟨_, rfl, (HG.out.h.pick [0] _ rfl), ?_⟩
   refine sq_psk [(2, .tuple #[.agg (cvE (tn, tp, tr, tb, tk, sz, sc, br)), .bool true]), (3, .agg (cvE (tn, tp, tr, tb, tk, sz, sc, br))), (4, .bool true)] ?_
   replace HG := Lib.hid (HG.out.new (cvE (⟨#[]⟩, ⟨#[]⟩, ⟨#[]⟩, ⟨#[]⟩, noP, 0, 0, false)) 35)
   refine sq_allock (some 5) 35 (cvE (⟨#[]⟩, ⟨#[]⟩, ⟨#[]⟩, ⟨#[]⟩, noP, 0, 0, false)) (zero_cv _) (HG.out.h.pick [1] _ rfl) ?_
   generalize v1.alloc _ = u2 at *
   generalize v1.heap.size = g2 at *
   have HN := Lib.hid (HG.out.at 0 rfl)
   replace HG : Hid (Blks w (u2.setRow g2 (cvE (tn, tp, tr, tb, tk, sz, sc, br))) [(g2, cvE (tn, tp, tr, tb, tk, sz, sc, br), 35), (w.heap.size, tqT (true, x, y), 27)]) := Lib.hid (HG.out.put 0 rfl (cvE (tn, tp, tr, tb, tk, sz, sc, br)))
   refine sq_stk 35 g2 (cvE (tn, tp, tr, tb, tk, sz, sc, br)) HN.out Tryz.infoCv rfl (HG.out.h.pick [1] _ rfl) ?_
   clear HN
   generalize World.setRow _ g2 _ = t3 at *
   refine sq_psk [(7, .bool true)] ?_
   refine sq_fink { tmps := List.toArray (List.append [.int .i64 id, .agg (tqT (true, x, y)), undef, .pointer (some ⟨w.heap.size, 0, none⟩), .bool false, .pointer (some ⟨g2, 0, none⟩), .bool true, .tuple #[.agg (cvE (tn, tp, tr, tb, tk, sz, sc, br)), .bool true], .int .i64 id, .tuple #[.agg (cvE (tn, tp, tr, tb, tk, sz, sc, br)), .bool true], .agg (cvE (tn, tp, tr, tb, tk, sz, sc, br)), .bool true, undef, undef, undef, undef, undef, undef, undef, undef, undef, undef, undef, undef, undef, undef, undef, undef, undef, undef, undef, undef, undef, undef, undef, undef, undef, undef, undef, undef] ([undef, undef, undef, undef, undef, undef, undef, undef, undef, undef, undef, undef, undef, undef])), defers := [] } ?_
   refine ‹∀ a w, Code.wp _ _ _ a w → _› _ _ ?_
   go_upto_region 2 with (fail)
   replace HS : Hid (Held t3 [(g2, cvE (tn, tp, tr, tb, tk, sz, sc, br), 35), (w.heap.size, tqT (true, x, y), 27)]) := Lib.hid (HG.out.h.pick [0, 1] _ rfl)
   refine wp_region_linek (S := fun w' => Held w' [(g2, cvE (tn, tp, tr, tb, tk, sz, sc, br), 35), (w.heap.size, tqT (true, x, y), 27)]) [(true, 0), (true, 1), (true, 2), (true, 3), (true, 4), (true, 5)] HS.out ?_
   refine SQ.out ?_
   refine g_psk [(0, .bool true), (1, .bool false), (2, .bool false), (3, .pointer (some ⟨w.heap.size, 0, none⟩))] ?_
   refine g_ldk (some 16) (wk_b (.tail _ (.head _)) (k := 0) rfl) ?_
   refine g_psk [(5, .bool true)] ?_
   refine g_normk { tmps := List.toArray (List.append [.int .i64 id, .agg (tqT (true, x, y)), undef, .pointer (some ⟨w.heap.size, 0, none⟩), .bool false, .pointer (some ⟨g2, 0, none⟩), .bool true, .tuple #[.agg (cvE (tn, tp, tr, tb, tk, sz, sc, br)), .bool true], .int .i64 id, .tuple #[.agg (cvE (tn, tp, tr, tb, tk, sz, sc, br)), .bool true], .agg (cvE (tn, tp, tr, tb, tk, sz, sc, br)), .bool true, .bool true, .bool false, .bool false, .pointer (some ⟨w.heap.size, 0, none⟩), .bool true, .bool true, undef, undef, undef, undef, undef, undef, undef, undef, undef, undef, undef, undef, undef, undef, undef, undef, undef, undef, undef, undef, undef, undef] ([undef, undef, undef, undef, undef, undef, undef, undef, undef, undef, undef, undef, undef, undef])), defers := [] } ?_
   refine g_done ?_
   refine ‹∀ a w, Code.wp _ _ _ a w → _› _ _ ?_
   go_upto_region 3 with (fail)
   replace HS : Hid (Held t3 [(g2, cvE (tn, tp, tr, tb, tk, sz, sc, br), 35), (w.heap.size, tqT (true, x, y), 27)]) := Lib.hid (HG.out.h.pick [0, 1] _ rfl)
   refine wp_region_linek (S := fun w' => Held w' [(g2, cvE (tn, tp, tr, tb, tk, sz, sc, br), 35), (w.heap.size, tqT (true, x, y), 27)]) [(true, 0), (true, 1), (true, 2), (true, 3), (true, 4), (true, 5), (true, 6), (true, 7), (true, 8), (true, 9), (true, 10), (true, 11), (true, 12), (true, 13)] HS.out ?_
   refine SQ.out ?_
   refine g_psk [(0, .bool true), (1, .bool true), (2, .pointer (some ⟨w.heap.size, 1, none⟩))] ?_
   refine g_ldk (some 21) (ld_mid' (D := aggT x) (k := 1) Tryz.underlying25 rfl Tryz.infoP (.tail _ (.head _)) rfl) ?_
   refine g_pure (some 22) (.agg (aggT noP)) (by kernel_rfl) (wanted_by (g := 1) (b := true) (d := 19) (by kernel_rfl) (by kernel_rfl) (by kernel_rfl) (by kernel_rfl)) (held_build 25 #[] (by kernel_rfl) _ (by kernel_rfl) _ built_pair0) ?_
   refine g_take (some 23) (.bool true) (by kernel_rfl) (eq_pr (wanted_by (g := 1) (b := true) (d := 19) (by kernel_rfl) (by kernel_rfl) (by kernel_rfl) (by kernel_rfl)) (.tmp 21) (.tmp 22) (by kernel_rfl) x noP true H1.out (by kernel_rfl) (by kernel_rfl)) ?_
   refine g_psk [(6, .bool true), (7, .bool true), (8, .pointer (some ⟨w.heap.size, 3, none⟩))] ?_
   refine g_ldk (some 27) (ld_mid' (D := aggT y) (k := 3) Tryz.underlying25 rfl Tryz.infoP (.tail _ (.head _)) rfl) ?_
   refine g_pure (some 28) (.agg (aggT noP)) (by kernel_rfl) (wanted_by (g := 7) (b := true) (d := 25) (by kernel_rfl) (by kernel_rfl) (by kernel_rfl) (by kernel_rfl)) (held_build 25 #[] (by kernel_rfl) _ (by kernel_rfl) _ built_pair0) ?_
   refine g_take (some 29) (.bool b2) (by kernel_rfl) (eq_pr (wanted_by (g := 7) (b := true) (d := 25) (by kernel_rfl) (by kernel_rfl) (by kernel_rfl) (by kernel_rfl)) (.tmp 27) (.tmp 28) (by kernel_rfl) y noP b2 H2.out (by kernel_rfl) (by kernel_rfl)) ?_
   refine g_psk [(12, .bool b2), (13, .bool b2)] ?_
   refine g_done ?_
   refine ‹∀ a w, Code.wp _ Code.ret _ a w → _› _ _ ?_
   refine wp_ret ?_
   try refine wk_block ?_
   try refine wk_then ?_
   exact wk_ret (v := .bool b2) Tryz.results8 (by kernel_rfl) (by kernel_rfl) ⟨rfl, HG.out.b⟩
 | false =>
 rw [if_neg (by decide)]
 have RX := Lib.hid (pairOk_any x (cvPT id))
 have RY := Lib.hid (pairOk_any y (cvPT id))
 cases hx : pairB x (cvPT id) with
 | false =>
  rw [hx] at RX
  rw [Bool.false_and]
  clear hb hx RY
  simp only [cvE_eq] at HK
  generalize cvNT id = tn at *
  generalize cvPT id = tp at *
  generalize cvRT id = tr at *
  generalize cvBT id = tb at *
  generalize cvKT id = tk at *
  generalize cvSz id = sz at *
  generalize cvSc id = sc at *
  generalize cvBr id = br at *
  have HG := Lib.hid (blks1 w (tqT (false, x, y)) 27)
  go_enter Tryz.func8, Tryz.ntmps8
  go_upto_region 1 with (fail)
  generalize w.alloc _ = w0 at *
  have HS := Lib.hid HG.out.h
  replace HS : Hid (Held w0 [(w.heap.size, tqT (false, x, y), 27)]) := Lib.hid (HG.out.h.pick [0] _ rfl)
  refine wp_region_linek (S := fun w' => Held w' [(w.heap.size, tqT (false, x, y), 27)]) [(true, 0), (false, 1), (true, 2), (true, 3), (true, 4), (false, 5), (false, 6), (true, 7)] HS.out ?_
  refine sq_psk [(0, .int .i64 id)] ?_
  refine sq_ck (some 9) Tryz.func14 (HK.out _) ?_
  rintro e v1 ⟨rfl, bw⟩
  replace HG := Lib.hid (HG.out.on bw)
  clear bw
  refine ⟨_, rfl, (HG.out.h.pick [0] _ rfl), ?_⟩
  refine sq_psk [(2, .tuple #[.agg (cvE (tn, tp, tr, tb, tk, sz, sc, br)), .bool true]), (3, .agg (cvE (tn, tp, tr, tb, tk, sz, sc, br))), (4, .bool true)] ?_
  replace HG := Lib.hid (HG.out.new (cvE (⟨#[]⟩, ⟨#[]⟩, ⟨#[]⟩, ⟨#[]⟩, noP, 0, 0, false)) 35)
  refine sq_allock (some 5) 35 (cvE (⟨#[]⟩, ⟨#[]⟩, ⟨#[]⟩, ⟨#[]⟩, noP, 0, 0, false)) (zero_cv _) (HG.out.h.pick [1] _ rfl) ?_
  generalize v1.alloc _ = u2 at *
  generalize v1.heap.size = g2 at *
  have HN := Lib.hid (HG.out.at 0 rfl)
  replace HG : Hid (Blks w (u2.setRow g2 (cvE (tn, tp, tr, tb, tk, sz, sc, br))) [(g2, cvE (tn, tp, tr, tb, tk, sz, sc, br), 35), (w.heap.size, tqT (false, x, y), 27)]) := Lib.hid (HG.out.put 0 rfl (cvE (tn, tp, tr, tb, tk, sz, sc, br)))
  refine sq_stk 35 g2 (cvE (tn, tp, tr, tb, tk, sz, sc, br)) HN.out Tryz.infoCv rfl (HG.out.h.pick [1] _ rfl) ?_
  clear HN
  generalize World.setRow _ g2 _ = t3 at *
  refine sq_psk [(7, .bool true)] ?_
  refine sq_fink { tmps := List.toArray (List.append [.int .i64 id, .agg (tqT (false, x, y)), undef, .pointer (some ⟨w.heap.size, 0, none⟩), .bool false, .pointer (some ⟨g2, 0, none⟩), .bool true, .tuple #[.agg (cvE (tn, tp, tr, tb, tk, sz, sc, br)), .bool true], .int .i64 id, .tuple #[.agg (cvE (tn, tp, tr, tb, tk, sz, sc, br)), .bool true], .agg (cvE (tn, tp, tr, tb, tk, sz, sc, br)), .bool true, undef, undef, undef, undef, undef, undef, undef, undef, undef, undef, undef, undef, undef, undef, undef, undef, undef, undef, undef, undef, undef, undef, undef, undef, undef, undef, undef, undef] ([undef, undef, undef, undef, undef, undef, undef, undef, undef, undef, undef, undef, undef, undef])), defers := [] } ?_
  refine ‹∀ a w, Code.wp _ _ _ a w → _› _ _ ?_
  go_upto_region 2 with (fail)
  replace HS : Hid (Held t3 [(g2, cvE (tn, tp, tr, tb, tk, sz, sc, br), 35), (w.heap.size, tqT (false, x, y), 27)]) := Lib.hid (HG.out.h.pick [0, 1] _ rfl)
  refine wp_region_linek (S := fun w' => Held w' [(g2, cvE (tn, tp, tr, tb, tk, sz, sc, br), 35), (w.heap.size, tqT (false, x, y), 27)]) [(true, 0), (true, 1), (true, 2), (true, 3), (true, 4), (true, 5)] HS.out ?_
  refine SQ.out ?_
  refine g_psk [(0, .bool true), (1, .bool false), (2, .bool false), (3, .pointer (some ⟨w.heap.size, 0, none⟩))] ?_
  refine g_ldk (some 16) (wk_b (.tail _ (.head _)) (k := 0) rfl) ?_
  refine g_psk [(5, .bool false)] ?_
  refine g_normk { tmps := List.toArray (List.append [.int .i64 id, .agg (tqT (false, x, y)), undef, .pointer (some ⟨w.heap.size, 0, none⟩), .bool false, .pointer (some ⟨g2, 0, none⟩), .bool true, .tuple #[.agg (cvE (tn, tp, tr, tb, tk, sz, sc, br)), .bool true], .int .i64 id, .tuple #[.agg (cvE (tn, tp, tr, tb, tk, sz, sc, br)), .bool true], .agg (cvE (tn, tp, tr, tb, tk, sz, sc, br)), .bool true, .bool true, .bool false, .bool false, .pointer (some ⟨w.heap.size, 0, none⟩), .bool false, .bool false, undef, undef, undef, undef, undef, undef, undef, undef, undef, undef, undef, undef, undef, undef, undef, undef, undef, undef, undef, undef, undef, undef] ([undef, undef, undef, undef, undef, undef, undef, undef, undef, undef, undef, undef, undef, undef])), defers := [] } ?_
  refine g_done ?_
  refine ‹∀ a w, Code.wp _ _ _ a w → _› _ _ ?_
  go_upto_region 4 with (fail)
  replace HS : Hid (Held t3 [(g2, cvE (tn, tp, tr, tb, tk, sz, sc, br), 35), (w.heap.size, tqT (false, x, y), 27)]) := Lib.hid (HG.out.h.pick [0, 1] _ rfl)
  replace HG := Lib.hid HG.out.drew
  replace HS := Lib.hid HS.out.drew
  refine sq_gok (S := fun w' => Held w' [(g2, cvE (tn, tp, tr, tb, tk, sz, sc, br), 35), (w.heap.size, tqT (false, x, y), 27)]) [(true, 0), (true, 1), (true, 2), (true, 3), (false, 4), (true, 5), (true, 6), (true, 7), (true, 8), (true, 9), (true, 10), (true, 11), (true, 12), (true, 13), (true, 14), (true, 15), (true, 16), (true, 17), (true, 18), (true, 19), (true, 20), (true, 21), (true, 22), (true, 23)] HS.out ?_
  refine SQ.out ?_
  refine g_psk [(0, .pointer (some ⟨w.heap.size, 1, none⟩))] ?_
  refine g_ldk (some 32) (ld_mid' (D := aggT x) (k := 1) Tryz.underlying25 rfl Tryz.infoP (.tail _ (.head _)) rfl) ?_
  refine g_psk [(2, .pointer (some ⟨g2, 1, none⟩))] ?_
  refine g_ldk (some 34) (wk_s (.head _) (k := 1) rfl) ?_
  refine g_ck (some 35) Tryz.func30 (RX.out _) ?_
  rintro e v4 ⟨rfl, bw⟩
  replace HG := Lib.hid (HG.out.on bw)
  clear bw
  refine ⟨_, rfl, (HG.out.h.pick [0, 1] _ rfl), ?_⟩
  refine g_psk [(5, .bool false)] ?_
  refine g_nok [6, 7, 8, 9, 10] ?_
  refine g_psk [(11, .bool false), (12, .bool false)] ?_
  refine g_nok [13, 14, 15, 16, 17, 18, 19, 20, 21] ?_
  refine g_psk [(22, .bool false), (23, .bool false)] ?_
  refine g_done ?_
  refine ‹∀ a w, Code.wp _ Code.ret _ a w → _› _ _ ?_
  refine wp_ret ?_
  try refine wk_block ?_
  try refine wk_then ?_
  exact wk_ret (v := .bool false) Tryz.results8 (by kernel_rfl) (by kernel_rfl) ⟨rfl, HG.out.b⟩
 | true =>
 rw [hx] at RX
 rw [Bool.true_and]
 cases hy : pairB y (cvPT id) with
 | false =>
  rw [hy] at RY
  rw [Bool.false_and]
  clear hb hx hy
  simp only [cvE_eq] at HK
  generalize cvNT id = tn at *
  generalize cvPT id = tp at *
  generalize cvRT id = tr at *
  generalize cvBT id = tb at *
  generalize cvKT id = tk at *
  generalize cvSz id = sz at *
  generalize cvSc id = sc at *
  generalize cvBr id = br at *
  have HG := Lib.hid (blks1 w (tqT (false, x, y)) 27)
  go_enter Tryz.func8, Tryz.ntmps8
  go_upto_region 1 with (fail)
  generalize w.alloc _ = w0 at *
  have HS := Lib.hid HG.out.h
  replace HS : Hid (Held w0 [(w.heap.size, tqT (false, x, y), 27)]) := Lib.hid (HG.out.h.pick [0] _ rfl)
  refine wp_region_linek (S := fun w' => Held w' [(w.heap.size, tqT (false, x, y), 27)]) [(true, 0), (false, 1), (true, 2), (true, 3), (true, 4), (false, 5), (false, 6), (true, 7)] HS.out ?_
  refine sq_psk [(0, .int .i64 id)] ?_
  refine sq_ck (some 9) Tryz.func14 (HK.out _) ?_
  rintro e v1 ⟨rfl, bw⟩
  replace HG := Lib.hid (HG.out.on bw)
  clear bw
  refine ⟨_, rfl, (HG.out.h.pick [0] _ rfl), ?_⟩
  refine sq_psk [(2, .tuple #[.agg (cvE (tn, tp, tr, tb, tk, sz, sc, br)), .bool true]), (3, .agg (cvE (tn, tp, tr, tb, tk, sz, sc, br))), (4, .bool true)] ?_
  replace HG := Lib.hid (HG.out.new (cvE (⟨#[]⟩, ⟨#[]⟩, ⟨#[]⟩, ⟨#[]⟩, noP, 0, 0, false)) 35)
  refine sq_allock (some 5) 35 (cvE (⟨#[]⟩, ⟨#[]⟩, ⟨#[]⟩, ⟨#[]⟩, noP, 0, 0, false)) (zero_cv _) (HG.out.h.pick [1] _ rfl) ?_
  generalize v1.alloc _ = u2 at *
  generalize v1.heap.size = g2 at *
  have HN := Lib.hid (HG.out.at 0 rfl)
  replace HG : Hid (Blks w (u2.setRow g2 (cvE (tn, tp, tr, tb, tk, sz, sc, br))) [(g2, cvE (tn, tp, tr, tb, tk, sz, sc, br), 35), (w.heap.size, tqT (false, x, y), 27)]) := Lib.hid (HG.out.put 0 rfl (cvE (tn, tp, tr, tb, tk, sz, sc, br)))
  refine sq_stk 35 g2 (cvE (tn, tp, tr, tb, tk, sz, sc, br)) HN.out Tryz.infoCv rfl (HG.out.h.pick [1] _ rfl) ?_
  clear HN
  generalize World.setRow _ g2 _ = t3 at *
  refine sq_psk [(7, .bool true)] ?_
  refine sq_fink { tmps := List.toArray (List.append [.int .i64 id, .agg (tqT (false, x, y)), undef, .pointer (some ⟨w.heap.size, 0, none⟩), .bool false, .pointer (some ⟨g2, 0, none⟩), .bool true, .tuple #[.agg (cvE (tn, tp, tr, tb, tk, sz, sc, br)), .bool true], .int .i64 id, .tuple #[.agg (cvE (tn, tp, tr, tb, tk, sz, sc, br)), .bool true], .agg (cvE (tn, tp, tr, tb, tk, sz, sc, br)), .bool true, undef, undef, undef, undef, undef, undef, undef, undef, undef, undef, undef, undef, undef, undef, undef, undef, undef, undef, undef, undef, undef, undef, undef, undef, undef, undef, undef, undef] ([undef, undef, undef, undef, undef, undef, undef, undef, undef, undef, undef, undef, undef, undef])), defers := [] } ?_
  refine ‹∀ a w, Code.wp _ _ _ a w → _› _ _ ?_
  go_upto_region 2 with (fail)
  replace HS : Hid (Held t3 [(g2, cvE (tn, tp, tr, tb, tk, sz, sc, br), 35), (w.heap.size, tqT (false, x, y), 27)]) := Lib.hid (HG.out.h.pick [0, 1] _ rfl)
  refine wp_region_linek (S := fun w' => Held w' [(g2, cvE (tn, tp, tr, tb, tk, sz, sc, br), 35), (w.heap.size, tqT (false, x, y), 27)]) [(true, 0), (true, 1), (true, 2), (true, 3), (true, 4), (true, 5)] HS.out ?_
  refine SQ.out ?_
  refine g_psk [(0, .bool true), (1, .bool false), (2, .bool false), (3, .pointer (some ⟨w.heap.size, 0, none⟩))] ?_
  refine g_ldk (some 16) (wk_b (.tail _ (.head _)) (k := 0) rfl) ?_
  refine g_psk [(5, .bool false)] ?_
  refine g_normk { tmps := List.toArray (List.append [.int .i64 id, .agg (tqT (false, x, y)), undef, .pointer (some ⟨w.heap.size, 0, none⟩), .bool false, .pointer (some ⟨g2, 0, none⟩), .bool true, .tuple #[.agg (cvE (tn, tp, tr, tb, tk, sz, sc, br)), .bool true], .int .i64 id, .tuple #[.agg (cvE (tn, tp, tr, tb, tk, sz, sc, br)), .bool true], .agg (cvE (tn, tp, tr, tb, tk, sz, sc, br)), .bool true, .bool true, .bool false, .bool false, .pointer (some ⟨w.heap.size, 0, none⟩), .bool false, .bool false, undef, undef, undef, undef, undef, undef, undef, undef, undef, undef, undef, undef, undef, undef, undef, undef, undef, undef, undef, undef, undef, undef] ([undef, undef, undef, undef, undef, undef, undef, undef, undef, undef, undef, undef, undef, undef])), defers := [] } ?_
  refine g_done ?_
  refine ‹∀ a w, Code.wp _ _ _ a w → _› _ _ ?_
  go_upto_region 4 with (fail)
  replace HS : Hid (Held t3 [(g2, cvE (tn, tp, tr, tb, tk, sz, sc, br), 35), (w.heap.size, tqT (false, x, y), 27)]) := Lib.hid (HG.out.h.pick [0, 1] _ rfl)
  replace HG := Lib.hid HG.out.drew
  replace HS := Lib.hid HS.out.drew
  refine sq_gok (S := fun w' => Held w' [(g2, cvE (tn, tp, tr, tb, tk, sz, sc, br), 35), (w.heap.size, tqT (false, x, y), 27)]) [(true, 0), (true, 1), (true, 2), (true, 3), (false, 4), (true, 5), (true, 6), (true, 7), (true, 8), (true, 9), (false, 10), (true, 11), (true, 12), (true, 13), (true, 14), (true, 15), (true, 16), (true, 17), (true, 18), (true, 19), (true, 20), (true, 21), (true, 22), (true, 23)] HS.out ?_
  refine SQ.out ?_
  refine g_psk [(0, .pointer (some ⟨w.heap.size, 1, none⟩))] ?_
  refine g_ldk (some 32) (ld_mid' (D := aggT x) (k := 1) Tryz.underlying25 rfl Tryz.infoP (.tail _ (.head _)) rfl) ?_
  refine g_psk [(2, .pointer (some ⟨g2, 1, none⟩))] ?_
  refine g_ldk (some 34) (wk_s (.head _) (k := 1) rfl) ?_
  refine g_ck (some 35) Tryz.func30 (RX.out _) ?_
  rintro e v4 ⟨rfl, bw⟩
  replace HG := Lib.hid (HG.out.on bw)
  clear bw
  refine ⟨_, rfl, (HG.out.h.pick [0, 1] _ rfl), ?_⟩
  refine g_psk [(5, .bool true), (6, .pointer (some ⟨w.heap.size, 3, none⟩))] ?_
  refine g_ldk (some 38) (ld_mid' (D := aggT y) (k := 3) Tryz.underlying25 rfl Tryz.infoP (.tail _ (.head _)) rfl) ?_
  refine g_psk [(8, .pointer (some ⟨g2, 1, none⟩))] ?_
  refine g_ldk (some 40) (wk_s (.head _) (k := 1) rfl) ?_
  refine g_ck (some 41) Tryz.func30 (RY.out _) ?_
  rintro e v5 ⟨rfl, bw⟩
  replace HG := Lib.hid (HG.out.on bw)
  clear bw
  refine ⟨_, rfl, (HG.out.h.pick [0, 1] _ rfl), ?_⟩
  refine g_psk [(11, .bool false), (12, .bool false)] ?_
  refine g_nok [13, 14, 15, 16, 17, 18, 19, 20, 21] ?_
  refine g_psk [(22, .bool false), (23, .bool false)] ?_
  refine g_done ?_
  refine ‹∀ a w, Code.wp _ Code.ret _ a w → _› _ _ ?_
  refine wp_ret ?_
  try refine wk_block ?_
  try refine wk_then ?_
  exact wk_ret (v := .bool false) Tryz.results8 (by kernel_rfl) (by kernel_rfl) ⟨rfl, HG.out.b⟩
 | true =>
  rw [hy] at RY
  rw [Bool.true_and]
  have F := curve_fit hb
  have l3 := gV_lt (modB_parts F.mp).1
  have g : ∀ {s : ByteArray}, okG s = true → s.size ≤ 1000000 := fun {s} k => by have := okG_size k; omega
  have hk := F.k
  have HI := Lib.hid (show Sm4 (false, x, y) ∧ ((cvKT id).1.size ≤ 1000000 ∧ (cvKT id).2.size ≤ 1000000) ∧ (cvPT id).size ≤ 1000000 from ⟨⟨⟨g (pair_oks hx).1, g (pair_oks hx).2⟩, ⟨g (pair_oks hy).1, g (pair_oks hy).2⟩⟩, ⟨g (pair_oks hk).1, g (pair_oks hk).2⟩, F.sp⟩)
  have HL := Lib.hid (show InP2 (gV (cvPT id)) (valP x) ∧ InP2 (gV (cvPT id)) (valP y) ∧ InP2 (gV (cvPT id)) (valP (cvKT id)) ∧ gV (cvPT id) < GB from ⟨(pair_num hx).1, (pair_num hy).1, (pair_num hk).1, l3⟩)
  obtain ⟨bo, hbo⟩ : ∃ o, onPB id x y = o := ⟨_, rfl⟩
  rw [hbo]
  unfold onPB at hbo
  have HBo := Lib.hid hbo
  clear hb hx hy F hbo l3 hk g
  simp only [cvE_eq] at HK
  generalize cvNT id = tn at *
  generalize cvPT id = tp at *
  generalize cvRT id = tr at *
  generalize cvBT id = tb at *
  generalize cvKT id = tk at *
  generalize cvSz id = sz at *
  generalize cvSc id = sc at *
  generalize cvBr id = br at *
  have HG := Lib.hid (blks1 w (tqT (false, x, y)) 27)
  go_enter Tryz.func8, Tryz.ntmps8
  go_upto_region 1 with (fail)
  generalize w.alloc _ = w0 at *
  have HS := Lib.hid HG.out.h
  replace HS : Hid (Held w0 [(w.heap.size, tqT (false, x, y), 27)]) := Lib.hid (HG.out.h.pick [0] _ rfl)
  refine wp_region_linek (S := fun w' => Held w' [(w.heap.size, tqT (false, x, y), 27)]) [(true, 0), (false, 1), (true, 2), (true, 3), (true, 4), (false, 5), (false, 6), (true, 7)] HS.out ?_
  refine sq_psk [(0, .int .i64 id)] ?_
  refine sq_ck (some 9) Tryz.func14 (HK.out _) ?_
  rintro e v1 ⟨rfl, bw⟩
  replace HG := Lib.hid (HG.out.on bw)
  clear bw
  refine ⟨_, rfl, (HG.out.h.pick [0] _ rfl), ?_⟩
  refine sq_psk [(2, .tuple #[.agg (cvE (tn, tp, tr, tb, tk, sz, sc, br)), .bool true]), (3, .agg (cvE (tn, tp, tr, tb, tk, sz, sc, br))), (4, .bool true)] ?_
  replace HG := Lib.hid (HG.out.new (cvE (⟨#[]⟩, ⟨#[]⟩, ⟨#[]⟩, ⟨#[]⟩, noP, 0, 0, false)) 35)
  refine sq_allock (some 5) 35 (cvE (⟨#[]⟩, ⟨#[]⟩, ⟨#[]⟩, ⟨#[]⟩, noP, 0, 0, false)) (zero_cv _) (HG.out.h.pick [1] _ rfl) ?_
  generalize v1.alloc _ = u2 at *
  generalize v1.heap.size = g2 at *
  have HN := Lib.hid (HG.out.at 0 rfl)
  replace HG : Hid (Blks w (u2.setRow g2 (cvE (tn, tp, tr, tb, tk, sz, sc, br))) [(g2, cvE (tn, tp, tr, tb, tk, sz, sc, br), 35), (w.heap.size, tqT (false, x, y), 27)]) := Lib.hid (HG.out.put 0 rfl (cvE (tn, tp, tr, tb, tk, sz, sc, br)))
  refine sq_stk 35 g2 (cvE (tn, tp, tr, tb, tk, sz, sc, br)) HN.out Tryz.infoCv rfl (HG.out.h.pick [1] _ rfl) ?_
  clear HN
  generalize World.setRow _ g2 _ = t3 at *
  refine sq_psk [(7, .bool true)] ?_
  refine sq_fink { tmps := List.toArray (List.append [.int .i64 id, .agg (tqT (false, x, y)), undef, .pointer (some ⟨w.heap.size, 0, none⟩), .bool false, .pointer (some ⟨g2, 0, none⟩), .bool true, .tuple #[.agg (cvE (tn, tp, tr, tb, tk, sz, sc, br)), .bool true], .int .i64 id, .tuple #[.agg (cvE (tn, tp, tr, tb, tk, sz, sc, br)), .bool true], .agg (cvE (tn, tp, tr, tb, tk, sz, sc, br)), .bool true, undef, undef, undef, undef, undef, undef, undef, undef, undef, undef, undef, undef, undef, undef, undef, undef, undef, undef, undef, undef, undef, undef, undef, undef, undef, undef, undef, undef] ([undef, undef, undef, undef, undef, undef, undef, undef, undef, undef, undef, undef, undef, undef])), defers := [] } ?_
  refine ‹∀ a w, Code.wp _ _ _ a w → _› _ _ ?_
  go_upto_region 2 with (fail)
  replace HS : Hid (Held t3 [(g2, cvE (tn, tp, tr, tb, tk, sz, sc, br), 35), (w.heap.size, tqT (false, x, y), 27)]) := Lib.hid (HG.out.h.pick [0, 1] _ rfl)
  refine wp_region_linek (S := fun w' => Held w' [(g2, cvE (tn, tp, tr, tb, tk, sz, sc, br), 35), (w.heap.size, tqT (false, x, y), 27)]) [(true, 0), (true, 1), (true, 2), (true, 3), (true, 4), (true, 5)] HS.out ?_
  refine SQ.out ?_
  refine g_psk [(0, .bool true), (1, .bool false), (2, .bool false), (3, .pointer (some ⟨w.heap.size, 0, none⟩))] ?_
  refine g_ldk (some 16) (wk_b (.tail _ (.head _)) (k := 0) rfl) ?_
  refine g_psk [(5, .bool false)] ?_
  refine g_normk { tmps := List.toArray (List.append [.int .i64 id, .agg (tqT (false, x, y)), undef, .pointer (some ⟨w.heap.size, 0, none⟩), .bool false, .pointer (some ⟨g2, 0, none⟩), .bool true, .tuple #[.agg (cvE (tn, tp, tr, tb, tk, sz, sc, br)), .bool true], .int .i64 id, .tuple #[.agg (cvE (tn, tp, tr, tb, tk, sz, sc, br)), .bool true], .agg (cvE (tn, tp, tr, tb, tk, sz, sc, br)), .bool true, .bool true, .bool false, .bool false, .pointer (some ⟨w.heap.size, 0, none⟩), .bool false, .bool false, undef, undef, undef, undef, undef, undef, undef, undef, undef, undef, undef, undef, undef, undef, undef, undef, undef, undef, undef, undef, undef, undef] ([undef, undef, undef, undef, undef, undef, undef, undef, undef, undef, undef, undef, undef, undef])), defers := [] } ?_
  refine g_done ?_
  refine ‹∀ a w, Code.wp _ _ _ a w → _› _ _ ?_
  go_upto_region 4 with (fail)
  replace HS : Hid (Held t3 [(g2, cvE (tn, tp, tr, tb, tk, sz, sc, br), 35), (w.heap.size, tqT (false, x, y), 27)]) := Lib.hid (HG.out.h.pick [0, 1] _ rfl)
  replace HG := Lib.hid HG.out.drew
  replace HS := Lib.hid HS.out.drew
  refine sq_gok (S := fun w' => Held w' [(g2, cvE (tn, tp, tr, tb, tk, sz, sc, br), 35), (w.heap.size, tqT (false, x, y), 27)]) [(true, 0), (true, 1), (true, 2), (true, 3), (false, 4), (true, 5), (true, 6), (true, 7), (true, 8), (true, 9), (false, 10), (true, 11), (true, 12), (true, 13), (true, 15), (true, 16), (true, 18), (true, 19), (false, 14), (false, 17), (false, 20), (false, 21), (true, 22), (true, 23)] HS.out ?_
  refine SQ.out ?_
  refine g_psk [(0, .pointer (some ⟨w.heap.size, 1, none⟩))] ?_
  refine g_ldk (some 32) (ld_mid' (D := aggT x) (k := 1) Tryz.underlying25 rfl Tryz.infoP (.tail _ (.head _)) rfl) ?_
  refine g_psk [(2, .pointer (some ⟨g2, 1, none⟩))] ?_
  refine g_ldk (some 34) (wk_s (.head _) (k := 1) rfl) ?_
  refine g_ck (some 35) Tryz.func30 (RX.out _) ?_
  rintro e v4 ⟨rfl, bw⟩
  replace HG := Lib.hid (HG.out.on bw)
  clear bw
  refine ⟨_, rfl, (HG.out.h.pick [0, 1] _ rfl), ?_⟩
  refine g_psk [(5, .bool true), (6, .pointer (some ⟨w.heap.size, 3, none⟩))] ?_
  refine g_ldk (some 38) (ld_mid' (D := aggT y) (k := 3) Tryz.underlying25 rfl Tryz.infoP (.tail _ (.head _)) rfl) ?_
  refine g_psk [(8, .pointer (some ⟨g2, 1, none⟩))] ?_
  refine g_ldk (some 40) (wk_s (.head _) (k := 1) rfl) ?_
  refine g_ck (some 41) Tryz.func30 (RY.out _) ?_
  rintro e v5 ⟨rfl, bw⟩
  replace HG := Lib.hid (HG.out.on bw)
  clear bw
  refine ⟨_, rfl, (HG.out.h.pick [0, 1] _ rfl), ?_⟩
  refine g_psk [(11, .bool true), (12, .bool true)] ?_
  refine g_ldk (some 44) (ld_mid' (D := tqT (false, x, y)) (k := 0) Tryz.underlying27 rfl Tryz.infoPq (.tail _ (.head _)) rfl) ?_
  refine g_psk [(15, .pointer (some ⟨g2, 4, none⟩))] ?_
  refine g_ldk (some 47) (ld_mid' (D := aggT tk) (k := 4) Tryz.underlying25 rfl Tryz.infoP (.head _) rfl) ?_
  refine g_psk [(18, .pointer (some ⟨g2, 1, none⟩))] ?_
  refine g_ldk (some 50) (wk_s (.head _) (k := 1) rfl) ?_
  refine g_ck (some 45) Tryz.func32 (in11_x (false, x, y) _ HI.out.1) ?_
  rintro e v6 ⟨Aq1, nq1, cq1, Aq2, nq2, cq2, Aq3, nq3, cq3, Aq4, nq4, cq4, rfl, k1, k2, k3, k4, bw⟩
  replace HG := Lib.hid (HG.out.on bw)
  clear bw
  have Xq1 := Lib.hid k1
  have Xq2 := Lib.hid k2
  have Xq3 := Lib.hid k3
  have Xq4 := Lib.hid k4
  clear k1 k2 k3 k4
  refine ⟨_, rfl, (HG.out.h.pick [0, 1] _ rfl), ?_⟩
  refine g_ck (some 48) Tryz.func33 (in7_v tk _ HI.out.2.1.1 HI.out.2.1.2) ?_
  rintro e v7 ⟨Ab1, nb1, cb1, Ab2, nb2, cb2, rfl, k1, k2, bw⟩
  replace HG := Lib.hid (HG.out.on bw)
  replace Xq1 := Lib.hid (Xq1.out.below bw)
  replace Xq2 := Lib.hid (Xq2.out.below bw)
  replace Xq3 := Lib.hid (Xq3.out.below bw)
  replace Xq4 := Lib.hid (Xq4.out.below bw)
  clear bw
  have Xb1 := Lib.hid k1
  have Xb2 := Lib.hid k2
  clear k1 k2
  refine ⟨_, rfl, (HG.out.h.pick [0, 1] _ rfl), ?_⟩
  refine g_ck (some 51) Tryz.func34 (in_v tp _ HI.out.2.2) ?_
  rintro e v8 ⟨Ap1, np1, cp1, rfl, k1, bw⟩
  replace HG := Lib.hid (HG.out.on bw)
  replace Xq1 := Lib.hid (Xq1.out.below bw)
  replace Xq2 := Lib.hid (Xq2.out.below bw)
  replace Xq3 := Lib.hid (Xq3.out.below bw)
  replace Xq4 := Lib.hid (Xq4.out.below bw)
  replace Xb1 := Lib.hid (Xb1.out.below bw)
  replace Xb2 := Lib.hid (Xb2.out.below bw)
  clear bw
  have Xp1 := Lib.hid k1
  clear k1
  refine ⟨_, rfl, (HG.out.h.pick [0, 1] _ rfl), ?_⟩
  refine g_ck (some 52) Tryz.func31 (on10_x (z := false) (vb := .agg (vP2 (.slice Ab1 nb1 cb1, .slice Ab2 nb2 cb2))) (vp := .slice Ap1 np1 cp1) (A1 := Aq1) (n1 := nq1) (c1 := cq1) (A2 := Aq2) (n2 := nq2) (c2 := cq2) (A3 := Aq3) (n3 := nq3) (c3 := cq3) (A4 := Aq4) (n4 := nq4) (c4 := cq4) (x := valP x) (y := valP y) (b := valP tk) ⟨_, _, rfl, Xq1.out, Xq2.out⟩ ⟨_, _, rfl, Xq3.out, Xq4.out⟩ ⟨_, _, rfl, Xb1.out, Xb2.out⟩ Xp1.out HL.out.1 HL.out.2.1 HL.out.2.2.1 HL.out.2.2.2) ?_
  rintro e v9 ⟨he, bw⟩
  rw [HBo.out] at he
  subst he
  replace HG := Lib.hid (HG.out.on bw)
  replace Xq1 := Lib.hid (Xq1.out.below bw)
  replace Xq2 := Lib.hid (Xq2.out.below bw)
  replace Xq3 := Lib.hid (Xq3.out.below bw)
  replace Xq4 := Lib.hid (Xq4.out.below bw)
  replace Xb1 := Lib.hid (Xb1.out.below bw)
  replace Xb2 := Lib.hid (Xb2.out.below bw)
  replace Xp1 := Lib.hid (Xp1.out.below bw)
  clear bw
  refine ⟨_, rfl, (HG.out.h.pick [0, 1] _ rfl), ?_⟩
  refine g_psk [(22, .bool bo), (23, .bool bo)] ?_
  refine g_done ?_
  refine ‹∀ a w, Code.wp _ Code.ret _ a w → _› _ _ ?_
  refine wp_ret ?_
  try refine wk_block ?_
  try refine wk_then ?_
  exact wk_ret (v := .bool bo) Tryz.results8 (by kernel_rfl) (by kernel_rfl) ⟨rfl, HG.out.b⟩
theorem sm_on {id : Int} (hc : cvB id = true) {Q : P2} (h : onP (gV (cvPT id)) (valP (cvKT id)) Q) : ∀ A, Q = some A → (A.1.1 < SM ∧ A.1.2 < SM) ∧ (A.2.1 < SM ∧ A.2.2 < SM) := fun A hA => by
 have l3 := gV_lt (modB_parts (curve_fit hc).mp).1
 have k := val_in h
 rw [hA] at k
 exact ⟨⟨sm_one (Nat.lt_trans k.1.1 l3), sm_one (Nat.lt_trans k.1.2 l3)⟩, ⟨sm_one (Nat.lt_trans k.2.1 l3), sm_one (Nat.lt_trans k.2.2 l3)⟩⟩
theorem addPairPoint_any (id : Int) (a b : Tq) (w : World) : Calls Tryz.prog 19 #[.int .i64 id, .agg (tqT a), .agg (tqT b)] w fun e w' => e = .returned (.agg (tqT (addQG id a b))) ∧ Below w.heap.size w w' := by
 have HA := Lib.hid (pairPointOk_any id a)
 have HB := Lib.hid (pairPointOk_any id b)
 unfold addQG
 cases ha : pairPtB id a with
 | false =>
  rw [ha] at HA
  rw [Bool.false_and, if_neg (by decide)]
  clear ha HB
  obtain ⟨z1, x1, y1⟩ := a
  obtain ⟨z2, x2, y2⟩ := b
  have HG := Lib.hid (blks3 w (tqT (z1, x1, y1)) (tqT (z2, x2, y2)) (#[.bool false, .string ⟨#[]⟩, .string ⟨#[]⟩, .string ⟨#[]⟩, .string ⟨#[]⟩]) 27 27 27)
  go_enter Tryz.func19, Tryz.ntmps19
  go_upto_region 1 with (fail)
  generalize ((w.alloc _).alloc _).alloc _ = w0 at *
  replace HG : Hid (Blks w w0 [(w.heap.size + 1 + 1, tqT (false, noP, noP), 27), (w.heap.size + 1, tqT (z2, x2, y2), 27), (w.heap.size, tqT (z1, x1, y1), 27)]) := HG
  have HS := Lib.hid HG.out.h
  replace HS : Hid (Held w0 [((w.heap.size + 1 + 1), tqT (false, noP, noP), 27), ((w.heap.size + 1), tqT (z2, x2, y2), 27), (w.heap.size, tqT (z1, x1, y1), 27)]) := Lib.hid (HG.out.h.pick [0, 1, 2] _ rfl)
  refine wp_region_linek (S := fun w' => Held w' [((w.heap.size + 1 + 1), tqT (false, noP, noP), 27), ((w.heap.size + 1), tqT (z2, x2, y2), 27), (w.heap.size, tqT (z1, x1, y1), 27)]) [(true, 0), (true, 1), (false, 2), (true, 3), (true, 4), (true, 5), (true, 6), (true, 7), (true, 8), (true, 9)] HS.out ?_
  refine SQ.out ?_
  refine g_psk [(0, .int .i64 id)] ?_
  refine g_ldk (some 8) (ld_mid' (D := tqT (z1, x1, y1)) (k := 0) Tryz.underlying27 rfl Tryz.infoPq (.tail _ (.tail _ (.head _))) rfl) ?_
  refine g_ck (some 9) Tryz.func8 (HA.out _) ?_
  rintro e v1 ⟨rfl, bw⟩
  replace HG := Lib.hid (HG.out.on bw)
  clear bw
  refine ⟨_, rfl, (HG.out.h.pick [0, 1, 2] _ rfl), ?_⟩
  refine g_psk [(3, .bool true), (4, .bool true)] ?_
  refine g_nok [5, 6, 7, 8] ?_
  refine g_psk [(9, .bool true)] ?_
  refine g_normk { tmps := List.toArray ([.int .i64 id, .agg (tqT (z1, x1, y1)), .agg (tqT (z2, x2, y2)), undef, .pointer (some ⟨w.heap.size, 0, none⟩), .pointer (some ⟨(w.heap.size + 1), 0, none⟩), .pointer (some ⟨(w.heap.size + 1 + 1), 0, none⟩), .int .i64 id, .agg (tqT (z1, x1, y1)), .bool false, .bool true, .bool true, undef, undef, undef, undef, .bool true, undef, undef, undef, undef, undef, undef, undef, undef, undef, undef, undef]), defers := [] } ?_
  refine g_done ?_
  refine ‹∀ a w, Code.wp _ _ _ a w → _› _ _ ?_
  go_upto_region 2 with (fail)
  replace HS : Hid (Held v1 [((w.heap.size + 1), tqT (z2, x2, y2), 27), (w.heap.size, tqT (z1, x1, y1), 27)]) := Lib.hid (HG.out.h.pick [1, 2] _ rfl)
  refine wp_region_linek (S := fun w' => Held w' [((w.heap.size + 1), tqT (z2, x2, y2), 27), (w.heap.size, tqT (z1, x1, y1), 27)]) [(true, 0), (false, 1)] HS.out ?_
  refine sq_pure (some 17) (.agg (tqT (false, noP, noP))) (by kernel_rfl) (by kernel_rfl) (held_build 27 #[] (by kernel_rfl) _ (by kernel_rfl) _ built_pq0) ?_
  have HN := Lib.hid (HG.out.at 0 rfl)
  replace HG : Hid (Blks w (v1.setRow (w.heap.size + 1 + 1) (tqT (false, noP, noP))) [((w.heap.size + 1 + 1), tqT (false, noP, noP), 27), ((w.heap.size + 1), tqT (z2, x2, y2), 27), (w.heap.size, tqT (z1, x1, y1), 27)]) := Lib.hid (HG.out.put 0 rfl (tqT (false, noP, noP)))
  refine sq_stk 27 (w.heap.size + 1 + 1) (tqT (false, noP, noP)) HN.out Tryz.infoPq rfl (HG.out.h.pick [1, 2] _ rfl) ?_
  clear HN
  generalize World.setRow _ (w.heap.size + 1 + 1) _ = t2 at *
  refine sq_done ?_
  refine ‹∀ a w, Code.wp _ Code.ret _ a w → _› _ _ ?_
  refine wp_ret ?_
  try refine wk_block ?_
  try refine wk_then ?_
  exact bodyPost_ret (results_cell_row Tryz.results19 _ _ (w.heap.size + 1 + 1) _ _ _ _ (by kernel_rfl) (HG.out.at 0 rfl) Tryz.underlying27 rfl Tryz.infoPq) (by kernel_rfl) ⟨rfl, HG.out.b⟩
 | true =>
 rw [ha] at HA
 rw [Bool.true_and]
 cases hb : pairPtB id b with
 | false =>
  rw [hb] at HB
  rw [if_neg (by decide)]
  clear ha hb
  obtain ⟨z1, x1, y1⟩ := a
  obtain ⟨z2, x2, y2⟩ := b
  have HG := Lib.hid (blks3 w (tqT (z1, x1, y1)) (tqT (z2, x2, y2)) (#[.bool false, .string ⟨#[]⟩, .string ⟨#[]⟩, .string ⟨#[]⟩, .string ⟨#[]⟩]) 27 27 27)
  go_enter Tryz.func19, Tryz.ntmps19
  go_upto_region 1 with (fail)
  generalize ((w.alloc _).alloc _).alloc _ = w0 at *
  replace HG : Hid (Blks w w0 [(w.heap.size + 1 + 1, tqT (false, noP, noP), 27), (w.heap.size + 1, tqT (z2, x2, y2), 27), (w.heap.size, tqT (z1, x1, y1), 27)]) := HG
  have HS := Lib.hid HG.out.h
  replace HS : Hid (Held w0 [((w.heap.size + 1 + 1), tqT (false, noP, noP), 27), ((w.heap.size + 1), tqT (z2, x2, y2), 27), (w.heap.size, tqT (z1, x1, y1), 27)]) := Lib.hid (HG.out.h.pick [0, 1, 2] _ rfl)
  refine wp_region_linek (S := fun w' => Held w' [((w.heap.size + 1 + 1), tqT (false, noP, noP), 27), ((w.heap.size + 1), tqT (z2, x2, y2), 27), (w.heap.size, tqT (z1, x1, y1), 27)]) [(true, 0), (true, 1), (false, 2), (true, 3), (true, 4), (true, 5), (true, 6), (false, 7), (true, 8), (true, 9)] HS.out ?_
  refine SQ.out ?_
  refine g_psk [(0, .int .i64 id)] ?_
  refine g_ldk (some 8) (ld_mid' (D := tqT (z1, x1, y1)) (k := 0) Tryz.underlying27 rfl Tryz.infoPq (.tail _ (.tail _ (.head _))) rfl) ?_
  refine g_ck (some 9) Tryz.func8 (HA.out _) ?_
  rintro e v1 ⟨rfl, bw⟩
  replace HG := Lib.hid (HG.out.on bw)
  clear bw
  refine ⟨_, rfl, (HG.out.h.pick [0, 1, 2] _ rfl), ?_⟩
  refine g_psk [(3, .bool false), (4, .bool false), (5, .int .i64 id)] ?_
  refine g_ldk (some 13) (ld_mid' (D := tqT (z2, x2, y2)) (k := 0) Tryz.underlying27 rfl Tryz.infoPq (.tail _ (.head _)) rfl) ?_
  refine g_ck (some 14) Tryz.func8 (HB.out _) ?_
  rintro e v2 ⟨rfl, bw⟩
  replace HG := Lib.hid (HG.out.on bw)
  clear bw
  refine ⟨_, rfl, (HG.out.h.pick [0, 1, 2] _ rfl), ?_⟩
  refine g_psk [(8, .bool true), (9, .bool true)] ?_
  refine g_normk { tmps := List.toArray ([.int .i64 id, .agg (tqT (z1, x1, y1)), .agg (tqT (z2, x2, y2)), undef, .pointer (some ⟨w.heap.size, 0, none⟩), .pointer (some ⟨(w.heap.size + 1), 0, none⟩), .pointer (some ⟨(w.heap.size + 1 + 1), 0, none⟩), .int .i64 id, .agg (tqT (z1, x1, y1)), .bool true, .bool false, .bool false, .int .i64 id, .agg (tqT (z2, x2, y2)), .bool false, .bool true, .bool true, undef, undef, undef, undef, undef, undef, undef, undef, undef, undef, undef]), defers := [] } ?_
  refine g_done ?_
  refine ‹∀ a w, Code.wp _ _ _ a w → _› _ _ ?_
  go_upto_region 2 with (fail)
  replace HS : Hid (Held v2 [((w.heap.size + 1), tqT (z2, x2, y2), 27), (w.heap.size, tqT (z1, x1, y1), 27)]) := Lib.hid (HG.out.h.pick [1, 2] _ rfl)
  refine wp_region_linek (S := fun w' => Held w' [((w.heap.size + 1), tqT (z2, x2, y2), 27), (w.heap.size, tqT (z1, x1, y1), 27)]) [(true, 0), (false, 1)] HS.out ?_
  refine sq_pure (some 17) (.agg (tqT (false, noP, noP))) (by kernel_rfl) (by kernel_rfl) (held_build 27 #[] (by kernel_rfl) _ (by kernel_rfl) _ built_pq0) ?_
  have HN := Lib.hid (HG.out.at 0 rfl)
  replace HG : Hid (Blks w (v2.setRow (w.heap.size + 1 + 1) (tqT (false, noP, noP))) [((w.heap.size + 1 + 1), tqT (false, noP, noP), 27), ((w.heap.size + 1), tqT (z2, x2, y2), 27), (w.heap.size, tqT (z1, x1, y1), 27)]) := Lib.hid (HG.out.put 0 rfl (tqT (false, noP, noP)))
  refine sq_stk 27 (w.heap.size + 1 + 1) (tqT (false, noP, noP)) HN.out Tryz.infoPq rfl (HG.out.h.pick [1, 2] _ rfl) ?_
  clear HN
  generalize World.setRow _ (w.heap.size + 1 + 1) _ = t3 at *
  refine sq_done ?_
  refine ‹∀ a w, Code.wp _ Code.ret _ a w → _› _ _ ?_
  refine wp_ret ?_
  try refine wk_block ?_
  try refine wk_then ?_
  exact bodyPost_ret (results_cell_row Tryz.results19 _ _ (w.heap.size + 1 + 1) _ _ _ _ (by kernel_rfl) (HG.out.at 0 rfl) Tryz.underlying27 rfl Tryz.infoPq) (by kernel_rfl) ⟨rfl, HG.out.b⟩
 | true =>
  rw [hb] at HB
  rw [if_pos rfl]
  have Fa := pair_fit ha
  have Fb := pair_fit hb
  have l3 := gV_lt (modB_parts (curve_fit Fa.cv).mp).1
  have l1 := (modB_parts (curve_fit Fa.cv).mp).2
  have HF := Lib.hid (And.intro (pair_sm ha) (pair_sm hb))
  have HM := Lib.hid (sm_on Fa.cv ((curve_sums Fa.cv).pair.on Fa.on Fb.on))
  have HP := Lib.hid (curve_fit Fa.cv).sp
  have HCu := Lib.hid (l09Curve_any id)
  have HN2 := Lib.hid (And.intro (val_in Fa.on) (And.intro (val_in Fb.on) (And.intro l3 l1)))
  obtain ⟨Qa, hQ⟩ : ∃ Q, val4 a = Q := ⟨_, rfl⟩
  obtain ⟨Qb, hR⟩ : ∃ Q, val4 b = Q := ⟨_, rfl⟩
  rw [hQ, hR] at HM HN2 ⊢
  have HQa := Lib.hid hQ
  have HQb := Lib.hid hR
  clear ha hb Fa Fb l3 l1 hQ hR
  obtain ⟨z1, x1, y1⟩ := a
  obtain ⟨z2, x2, y2⟩ := b
  simp only [cvE_eq] at HCu
  generalize cvNT id = tn at *
  generalize cvPT id = tp at *
  generalize cvRT id = tr at *
  generalize cvBT id = tb at *
  generalize cvKT id = tk at *
  generalize cvSz id = sz at *
  generalize cvSc id = sc at *
  generalize cvBr id = br at *
  have HG := Lib.hid (blks3 w (tqT (z1, x1, y1)) (tqT (z2, x2, y2)) (#[.bool false, .string ⟨#[]⟩, .string ⟨#[]⟩, .string ⟨#[]⟩, .string ⟨#[]⟩]) 27 27 27)
  go_enter Tryz.func19, Tryz.ntmps19
  go_upto_region 1 with (fail)
  generalize ((w.alloc _).alloc _).alloc _ = w0 at *
  replace HG : Hid (Blks w w0 [(w.heap.size + 1 + 1, tqT (false, noP, noP), 27), (w.heap.size + 1, tqT (z2, x2, y2), 27), (w.heap.size, tqT (z1, x1, y1), 27)]) := HG
  have HS := Lib.hid HG.out.h
  replace HS : Hid (Held w0 [((w.heap.size + 1 + 1), tqT (false, noP, noP), 27), ((w.heap.size + 1), tqT (z2, x2, y2), 27), (w.heap.size, tqT (z1, x1, y1), 27)]) := Lib.hid (HG.out.h.pick [0, 1, 2] _ rfl)
  refine wp_region_linek (S := fun w' => Held w' [((w.heap.size + 1 + 1), tqT (false, noP, noP), 27), ((w.heap.size + 1), tqT (z2, x2, y2), 27), (w.heap.size, tqT (z1, x1, y1), 27)]) [(true, 0), (true, 1), (false, 2), (true, 3), (true, 4), (true, 5), (true, 6), (false, 7), (true, 8), (true, 9)] HS.out ?_
  refine SQ.out ?_
  refine g_psk [(0, .int .i64 id)] ?_
  refine g_ldk (some 8) (ld_mid' (D := tqT (z1, x1, y1)) (k := 0) Tryz.underlying27 rfl Tryz.infoPq (.tail _ (.tail _ (.head _))) rfl) ?_
  refine g_ck (some 9) Tryz.func8 (HA.out _) ?_
  rintro e v1 ⟨rfl, bw⟩
  replace HG := Lib.hid (HG.out.on bw)
  clear bw
  refine ⟨_, rfl, (HG.out.h.pick [0, 1, 2] _ rfl), ?_⟩
  refine g_psk [(3, .bool false), (4, .bool false), (5, .int .i64 id)] ?_
  refine g_ldk (some 13) (ld_mid' (D := tqT (z2, x2, y2)) (k := 0) Tryz.underlying27 rfl Tryz.infoPq (.tail _ (.head _)) rfl) ?_
  refine g_ck (some 14) Tryz.func8 (HB.out _) ?_
  rintro e v2 ⟨rfl, bw⟩
  replace HG := Lib.hid (HG.out.on bw)
  clear bw
  refine ⟨_, rfl, (HG.out.h.pick [0, 1, 2] _ rfl), ?_⟩
  refine g_psk [(8, .bool false), (9, .bool false)] ?_
  refine g_normk { tmps := List.toArray ([.int .i64 id, .agg (tqT (z1, x1, y1)), .agg (tqT (z2, x2, y2)), undef, .pointer (some ⟨w.heap.size, 0, none⟩), .pointer (some ⟨(w.heap.size + 1), 0, none⟩), .pointer (some ⟨(w.heap.size + 1 + 1), 0, none⟩), .int .i64 id, .agg (tqT (z1, x1, y1)), .bool true, .bool false, .bool false, .int .i64 id, .agg (tqT (z2, x2, y2)), .bool true, .bool false, .bool false, undef, undef, undef, undef, undef, undef, undef, undef, undef, undef, undef]), defers := [] } ?_
  refine g_done ?_
  refine ‹∀ a w, Code.wp _ _ _ a w → _› _ _ ?_
  go_upto_region 3 with (fail)
  replace HS : Hid (Held v2 [((w.heap.size + 1), tqT (z2, x2, y2), 27), (w.heap.size, tqT (z1, x1, y1), 27)]) := Lib.hid (HG.out.h.pick [1, 2] _ rfl)
  replace HG := Lib.hid HG.out.drew
  replace HS := Lib.hid HS.out.drew
  refine sq_gok (S := fun w' => Held w' [((w.heap.size + 1), tqT (z2, x2, y2), 27), (w.heap.size, tqT (z1, x1, y1), 27)]) [(true, 0), (true, 2), (true, 4), (false, 1), (false, 3), (false, 5), (true, 6), (false, 7), (false, 8), (false, 9), (false, 10)] HS.out ?_
  refine sq_ldk (some 18) (ld_mid' (D := tqT (z1, x1, y1)) (k := 0) Tryz.underlying27 rfl Tryz.infoPq (.tail _ (.head _)) rfl) ?_
  refine sq_ldk (some 20) (ld_mid' (D := tqT (z2, x2, y2)) (k := 0) Tryz.underlying27 rfl Tryz.infoPq (.head _) rfl) ?_
  refine sq_psk [(4, .int .i64 id)] ?_
  refine sq_ck (some 19) Tryz.func32 (in11_x (z1, x1, y1) _ HF.out.1) ?_
  rintro e v3 ⟨Aa1, na1, ca1, Aa2, na2, ca2, Aa3, na3, ca3, Aa4, na4, ca4, rfl, k1, k2, k3, k4, bw⟩
  have Xa := Lib.hid (in11_pt (q := (z1, x1, y1)) k1 k2 k3 k4)
  clear k1 k2 k3 k4
  rw [HQa.out] at Xa
  replace HG := Lib.hid (HG.out.on bw)
  clear bw
  refine ⟨_, rfl, (HG.out.h.pick [1, 2] _ rfl), ?_⟩
  refine sq_ck (some 21) Tryz.func32 (in11_x (z2, x2, y2) _ HF.out.2) ?_
  rintro e v4 ⟨Ab1, nb1, cb1, Ab2, nb2, cb2, Ab3, nb3, cb3, Ab4, nb4, cb4, rfl, k1, k2, k3, k4, bw⟩
  have Xb := Lib.hid (in11_pt (q := (z2, x2, y2)) k1 k2 k3 k4)
  clear k1 k2 k3 k4
  rw [HQb.out] at Xb
  replace HG := Lib.hid (HG.out.on bw)
  replace Xa := Lib.hid (Xa.out.below bw)
  clear bw
  refine ⟨_, rfl, (HG.out.h.pick [1, 2] _ rfl), ?_⟩
  refine sq_ck (some 23) Tryz.func42 (HCu.out _) ?_
  rintro e v5 ⟨rfl, bw⟩
  replace HG := Lib.hid (HG.out.on bw)
  replace Xa := Lib.hid (Xa.out.below bw)
  replace Xb := Lib.hid (Xb.out.below bw)
  clear bw
  refine ⟨_, rfl, (HG.out.h.pick [1, 2] _ rfl), ?_⟩
  refine sq_psk [(6, .string tp)] ?_
  refine sq_ck (some 25) Tryz.func34 (in_v tp _ HP.out) ?_
  rintro e v6 ⟨Ap1, np1, cp1, rfl, k1, bw⟩
  replace HG := Lib.hid (HG.out.on bw)
  replace Xa := Lib.hid (Xa.out.below bw)
  replace Xb := Lib.hid (Xb.out.below bw)
  clear bw
  have Xp1 := Lib.hid k1
  clear k1
  refine ⟨_, rfl, (HG.out.h.pick [1, 2] _ rfl), ?_⟩
  refine sq_ck (some 26) Tryz.func47 (ladd10_x Xa.out Xb.out Xp1.out HN2.out.1 HN2.out.2.1 HN2.out.2.2.1 HN2.out.2.2.2) ?_
  rintro e v7 ⟨va, rfl, kx, bw⟩
  replace HG := Lib.hid (HG.out.on bw)
  replace Xa := Lib.hid (Xa.out.below bw)
  replace Xb := Lib.hid (Xb.out.below bw)
  replace Xp1 := Lib.hid (Xp1.out.below bw)
  clear bw
  have Xs := Lib.hid kx
  clear kx
  refine ⟨_, rfl, (HG.out.h.pick [1, 2] _ rfl), ?_⟩
  refine sq_ck (some 27) Tryz.func46 (out11_x Xs.out HM.out) ?_
  rintro e v8 ⟨rfl, bw⟩
  replace HG := Lib.hid (HG.out.on bw)
  replace Xa := Lib.hid (Xa.out.below bw)
  replace Xb := Lib.hid (Xb.out.below bw)
  replace Xp1 := Lib.hid (Xp1.out.below bw)
  replace Xs := Lib.hid (Xs.out.below bw)
  clear bw
  refine ⟨_, rfl, (HG.out.h.pick [1, 2] _ rfl), ?_⟩
  have HN := Lib.hid (HG.out.at 0 rfl)
  replace HG : Hid (Blks w (v8.setRow (w.heap.size + 1 + 1) (tqT (txt4 (plusP (gV tp) Qa Qb)))) [((w.heap.size + 1 + 1), tqT (txt4 (plusP (gV tp) Qa Qb)), 27), ((w.heap.size + 1), tqT (z2, x2, y2), 27), (w.heap.size, tqT (z1, x1, y1), 27)]) := Lib.hid (HG.out.put 0 rfl (tqT (txt4 (plusP (gV tp) Qa Qb))))
  replace Xa := Lib.hid (Xa.out.setRow (C' := tqT (txt4 (plusP (gV tp) Qa Qb))) HN.out (by decide))
  replace Xb := Lib.hid (Xb.out.setRow (C' := tqT (txt4 (plusP (gV tp) Qa Qb))) HN.out (by decide))
  replace Xp1 := Lib.hid (Xp1.out.setRow (C' := tqT (txt4 (plusP (gV tp) Qa Qb))) HN.out (by decide))
  replace Xs := Lib.hid (Xs.out.setRow (C' := tqT (txt4 (plusP (gV tp) Qa Qb))) HN.out (by decide))
  refine sq_stk 27 (w.heap.size + 1 + 1) (tqT (txt4 (plusP (gV tp) Qa Qb))) HN.out Tryz.infoPq rfl (HG.out.h.pick [1, 2] _ rfl) ?_
  clear HN
  generalize World.setRow _ (w.heap.size + 1 + 1) _ = t9 at *
  refine sq_done ?_
  refine ‹∀ a w, Code.wp _ Code.ret _ a w → _› _ _ ?_
  refine wp_ret ?_
  try refine wk_block ?_
  try refine wk_then ?_
  exact bodyPost_ret (results_cell_row Tryz.results19 _ _ (w.heap.size + 1 + 1) _ _ _ _ (by kernel_rfl) (HG.out.at 0 rfl) Tryz.underlying27 rfl Tryz.infoPq) (by kernel_rfl) ⟨rfl, HG.out.b⟩
end Go.Proofs.YtdajgcgliidjbaaGreat

import Derived.Test.YtdajgcgliidjbaaGreatZAdd
import Derived.Test.YtdajgcgliidjbaaGreatZPoint
import Derived.Test.YtdajgcgliidjbaaGreatQMath
import Derived.Deep.LoopGhost
set_option maxRecDepth 8000
set_option maxHeartbeats 4000000
namespace Go.Proofs.YtdajgcgliidjbaaGreat
open Go.RowKit
theorem PtX.put10 {w0 w : World} {v : Value} {Q : P2} {g : Nat} {C C' : Array Value} (h : PtX w v Q) (hg : w0.heap[g]? = some (.cells C 61 (0, 0))) (b : Below w.heap.size w w0 := by assumption) : PtX (w0.setRow g C') v Q := by
 have h2 := h.below b
 cases Q with
 | none => exact h2
 | some A =>
  obtain ⟨xa, xb, ya, yb, e, h1, h2, h3, h4⟩ := h2
  exact ⟨xa, xb, ya, yb, e, RowX.setRow h1 hg (by decide), RowX.setRow h2 hg (by decide), RowX.setRow h3 hg (by decide), RowX.setRow h4 hg (by decide)⟩
theorem ladd10_x {w : World} {va vb vp : Value} {Q R : P2} {n : Nat} (hA : PtX w va Q) (hB : PtX w vb R) (hp : RowX w vp n) (iA : InO n Q) (iB : InO n R) (hn : n < GB) (h1 : 1 < n) : Calls Tryz.prog 47 #[va, vb, vp] w (PtTo (plusP n Q R) w) := by
 obtain ⟨A1, n1, c1, A2, n2, c2, A3, n3, c3, A4, n4, c4, rfl⟩ := hA.cells
 obtain ⟨B1, m1, d1, B2, m2, d2, B3, m3, d3, B4, m4, d4, rfl⟩ := hB.cells
 cases Q with
 | none =>
  obtain ⟨pA, pn, pc, rfl⟩ := hp.shape
  have HX := Lib.hid hB
  cases R with
  | none =>
   have HG0 := Lib.hid (begun3 (Held.none w) (ptC true (.slice A1 n1 c1) (.slice A2 n2 c2) (.slice A3 n3 c3) (.slice A4 n4 c4)) (ptC true (.slice B1 m1 d1) (.slice B2 m2 d2) (.slice B3 m3 d3) (.slice B4 m4 d4)) #[.bool false, .slice none 0 0, .slice none 0 0, .slice none 0 0, .slice none 0 0] 61 61 61)
   have HE := Lib.hid (HG0.out.put (show w.heap.size ≤ (w.heap.size + 1 + 1) by omega) (ptC true (.slice B1 m1 d1) (.slice B2 m2 d2) (.slice B3 m3 d3) (.slice B4 m4 d4)))
   clear hp iA iB hn h1 hA hB
   unfold plusP PtTo
   go_enter Tryz.func47, Tryz.ntmps47
   go_upto_region 1 with (fail)
   generalize ((w.alloc _).alloc _).alloc _ = w0 at *
   have HHA := Lib.hid (show _ = some (Obj.cells (ptC true (.slice A1 n1 c1) (.slice A2 n2 c2) (.slice A3 n3 c3) (.slice A4 n4 c4)) 61 (0, 0)) from HG0.out.h (w.heap.size, ptC true (.slice A1 n1 c1) (.slice A2 n2 c2) (.slice A3 n3 c3) (.slice A4 n4 c4), 61) (.tail _ (.head _)))
   have HHB := Lib.hid (show _ = some (Obj.cells (ptC true (.slice B1 m1 d1) (.slice B2 m2 d2) (.slice B3 m3 d3) (.slice B4 m4 d4)) 61 (0, 0)) from HG0.out.h ((w.heap.size + 1), ptC true (.slice B1 m1 d1) (.slice B2 m2 d2) (.slice B3 m3 d3) (.slice B4 m4 d4), 61) (.head _))
   have za := pt_z HHA.out
   have zb := pt_z HHB.out
   go_wp2_with (first | refine load_v rfl 61 (.tmp 4) rfl (w.heap.size + 1) (ptC true (.slice B1 m1 d1) (.slice B2 m2 d2) (.slice B3 m3 d3) (.slice B4 m4 d4)) rfl HHB.out Tryz.underlying61 rfl Tryz.infoPt10 ?_ | refine store_v rfl 61 (.tmp 6) (.tmp 16) rfl ((w.heap.size + 1 + 1)) _ (ptC true (.slice B1 m1 d1) (.slice B2 m2 d2) (.slice B3 m3 d3) (.slice B4 m4 d4)) rfl rfl HG0.out.out Tryz.infoPt10 rfl (by kernel_rfl) ?_)
   exact bodyPost_ret (results_cell_row Tryz.results47 _ _ ((w.heap.size + 1 + 1)) _ _ _ _ rfl HE.out.out Tryz.underlying61 rfl Tryz.infoPt10) rfl ⟨_, rfl, HX.out.put10 HG0.out.out HG0.out.b, HE.out.b⟩
  | some B =>
   have HG0 := Lib.hid (begun3 (Held.none w) (ptC true (.slice A1 n1 c1) (.slice A2 n2 c2) (.slice A3 n3 c3) (.slice A4 n4 c4)) (ptC false (.slice B1 m1 d1) (.slice B2 m2 d2) (.slice B3 m3 d3) (.slice B4 m4 d4)) #[.bool false, .slice none 0 0, .slice none 0 0, .slice none 0 0, .slice none 0 0] 61 61 61)
   have HE := Lib.hid (HG0.out.put (show w.heap.size ≤ (w.heap.size + 1 + 1) by omega) (ptC false (.slice B1 m1 d1) (.slice B2 m2 d2) (.slice B3 m3 d3) (.slice B4 m4 d4)))
   clear hp iA iB hn h1 hA hB
   unfold plusP PtTo
   go_enter Tryz.func47, Tryz.ntmps47
   go_upto_region 1 with (fail)
   generalize ((w.alloc _).alloc _).alloc _ = w0 at *
   have HHA := Lib.hid (show _ = some (Obj.cells (ptC true (.slice A1 n1 c1) (.slice A2 n2 c2) (.slice A3 n3 c3) (.slice A4 n4 c4)) 61 (0, 0)) from HG0.out.h (w.heap.size, ptC true (.slice A1 n1 c1) (.slice A2 n2 c2) (.slice A3 n3 c3) (.slice A4 n4 c4), 61) (.tail _ (.head _)))
   have HHB := Lib.hid (show _ = some (Obj.cells (ptC false (.slice B1 m1 d1) (.slice B2 m2 d2) (.slice B3 m3 d3) (.slice B4 m4 d4)) 61 (0, 0)) from HG0.out.h ((w.heap.size + 1), ptC false (.slice B1 m1 d1) (.slice B2 m2 d2) (.slice B3 m3 d3) (.slice B4 m4 d4), 61) (.head _))
   have za := pt_z HHA.out
   have zb := pt_z HHB.out
   go_wp2_with (first | refine load_v rfl 61 (.tmp 4) rfl (w.heap.size + 1) (ptC false (.slice B1 m1 d1) (.slice B2 m2 d2) (.slice B3 m3 d3) (.slice B4 m4 d4)) rfl HHB.out Tryz.underlying61 rfl Tryz.infoPt10 ?_ | refine store_v rfl 61 (.tmp 6) (.tmp 16) rfl ((w.heap.size + 1 + 1)) _ (ptC false (.slice B1 m1 d1) (.slice B2 m2 d2) (.slice B3 m3 d3) (.slice B4 m4 d4)) rfl rfl HG0.out.out Tryz.infoPt10 rfl (by kernel_rfl) ?_)
   exact bodyPost_ret (results_cell_row Tryz.results47 _ _ ((w.heap.size + 1 + 1)) _ _ _ _ rfl HE.out.out Tryz.underlying61 rfl Tryz.infoPt10) rfl ⟨_, rfl, HX.out.put10 HG0.out.out HG0.out.b, HE.out.b⟩
 | some A =>
  cases R with
  | none =>
   obtain ⟨pA, pn, pc, rfl⟩ := hp.shape
   have HX := Lib.hid hA
   have HG0 := Lib.hid (begun3 (Held.none w) (ptC false (.slice A1 n1 c1) (.slice A2 n2 c2) (.slice A3 n3 c3) (.slice A4 n4 c4)) (ptC true (.slice B1 m1 d1) (.slice B2 m2 d2) (.slice B3 m3 d3) (.slice B4 m4 d4)) #[.bool false, .slice none 0 0, .slice none 0 0, .slice none 0 0, .slice none 0 0] 61 61 61)
   have HE := Lib.hid (HG0.out.put (show w.heap.size ≤ (w.heap.size + 1 + 1) by omega) (ptC false (.slice A1 n1 c1) (.slice A2 n2 c2) (.slice A3 n3 c3) (.slice A4 n4 c4)))
   clear hp iA iB hn h1 hA hB
   unfold plusP PtTo
   go_enter Tryz.func47, Tryz.ntmps47
   go_upto_region 1 with (fail)
   generalize ((w.alloc _).alloc _).alloc _ = w0 at *
   have HHA := Lib.hid (show _ = some (Obj.cells (ptC false (.slice A1 n1 c1) (.slice A2 n2 c2) (.slice A3 n3 c3) (.slice A4 n4 c4)) 61 (0, 0)) from HG0.out.h (w.heap.size, ptC false (.slice A1 n1 c1) (.slice A2 n2 c2) (.slice A3 n3 c3) (.slice A4 n4 c4), 61) (.tail _ (.head _)))
   have HHB := Lib.hid (show _ = some (Obj.cells (ptC true (.slice B1 m1 d1) (.slice B2 m2 d2) (.slice B3 m3 d3) (.slice B4 m4 d4)) 61 (0, 0)) from HG0.out.h ((w.heap.size + 1), ptC true (.slice B1 m1 d1) (.slice B2 m2 d2) (.slice B3 m3 d3) (.slice B4 m4 d4), 61) (.head _))
   have za := pt_z HHA.out
   have zb := pt_z HHB.out
   go_wp2_with (first | refine load_v rfl 61 (.tmp 3) rfl w.heap.size (ptC false (.slice A1 n1 c1) (.slice A2 n2 c2) (.slice A3 n3 c3) (.slice A4 n4 c4)) rfl HHA.out Tryz.underlying61 rfl Tryz.infoPt10 ?_ | refine store_v rfl 61 (.tmp 6) (.tmp 19) rfl ((w.heap.size + 1 + 1)) _ (ptC false (.slice A1 n1 c1) (.slice A2 n2 c2) (.slice A3 n3 c3) (.slice A4 n4 c4)) rfl rfl HG0.out.out Tryz.infoPt10 rfl (by kernel_rfl) ?_)
   exact bodyPost_ret (results_cell_row Tryz.results47 _ _ ((w.heap.size + 1 + 1)) _ _ _ _ rfl HE.out.out Tryz.underlying61 rfl Tryz.infoPt10) rfl ⟨_, rfl, HX.out.put10 HG0.out.out HG0.out.b, HE.out.b⟩
  | some B =>
   rw [show plusP n (some A) (some B) = (if subP n B.1 A.1 = (0, 0) then (if A.2 = (0, 0) ∨ subP n B.2 A.2 ≠ (0, 0) then none else some (lineP n A B (tripleP n A.1) (addP n A.2 A.2))) else some (lineP n A B (subP n B.2 A.2) (subP n B.1 A.1))) from rfl]
   by_cases h : subP n B.1 A.1 = (0, 0)
   ·rw [if_pos h]
    by_cases hy : A.2 = (0, 0) ∨ subP n B.2 A.2 ≠ (0, 0)
    ·rw [if_pos hy]
     exact ladd10_none hA hB hp iA iB hn h1 h hy
    ·rw [if_neg hy]
     exact ladd10_tangent hA hB hp iA iB hn h1 h (fun e => hy (.inl e)) (Classical.byContradiction fun e => hy (.inr e))
   ·rw [if_neg h]
    exact ladd10_chord hA hB hp iA iB hn h1 h
end Go.Proofs.YtdajgcgliidjbaaGreat

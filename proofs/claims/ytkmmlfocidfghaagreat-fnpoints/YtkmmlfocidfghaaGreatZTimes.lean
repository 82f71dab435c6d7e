import Derived.Test.YtkmmlfocidfghaaGreatZJacC
import Derived.Test.YtkmmlfocidfghaaGreatZPoint
import Derived.Test.YtkmmlfocidfghaaGreatUInvs
namespace Go.Proofs.YtkmmlfocidfghaaGreat
open Go.RowKit
theorem JacX.below {w w' : World} {v : Value} {J : Pn × Pn × Pn} (h : JacX w v J) (b : Below w.heap.size w w') : JacX w' v J := by
  obtain ⟨x1, x2, y1, y2, z1, z2, e, a, c, d⟩ := h
  exact ⟨x1, x2, y1, y2, z1, z2, e, a.below b, c.below b, d.below b⟩
theorem JacX.setRow {w : World} {v : Value} {J : Pn × Pn × Pn} {g : Nat} {C C' : Array Value} {t : TypeId} (h : JacX w v J) (hg : w.heap[g]? = some (.cells C t (0, 0))) (ht : t ≠ 3) : JacX (w.setRow g C') v J := by
  obtain ⟨x1, x2, y1, y2, z1, z2, e, a, c, d⟩ := h
  exact ⟨x1, x2, y1, y2, z1, z2, e, a.setRow hg ht, c.setRow hg ht, d.setRow hg ht⟩
theorem JacX.q {w : World} {v : Value} {J : Pn × Pn × Pn} (h : JacX w v J) : ∃ q : Array Value, v = .agg q ∧ q.size = 6 ∧ q.all (·.oneCell') = true := by
  obtain ⟨x1, x2, y1, y2, z1, z2, rfl, ⟨_, _, e1, a1, a2⟩, ⟨_, _, e2, b1, b2⟩, ⟨_, _, e3, d1, d2⟩⟩ := h
  injection e1 with e1
  injection e2 with e2
  injection e3 with e3
  simp only [Array.mk.injEq, List.cons.injEq, and_true] at e1 e2 e3
  obtain ⟨rfl, rfl⟩ := e1
  obtain ⟨rfl, rfl⟩ := e2
  obtain ⟨rfl, rfl⟩ := e3
  obtain ⟨A1, n1, c1, rfl⟩ := a1.shape
  obtain ⟨A2, n2, c2, rfl⟩ := a2.shape
  obtain ⟨A3, n3, c3, rfl⟩ := b1.shape
  obtain ⟨A4, n4, c4, rfl⟩ := b2.shape
  obtain ⟨A5, n5, c5, rfl⟩ := d1.shape
  obtain ⟨A6, n6, c6, rfl⟩ := d2.shape
  exact ⟨_, rfl, rfl, by kernel_rfl⟩
structure TW (w wr : World) (g7 : Nat) (PB q ZJ : Array Value) (vp : Value) (B : Pn × Pn) (a : Pn × Pn × Pn) (n : Nat) : Prop where
  g : Begun w wr [(g7, q, 125), (w.heap.size, PB, 58)] (w.heap.size + 1) ZJ 125
  ap : ∀ b ∈ [(w.heap.size, PB, 58)], b.1 ≠ g7
  ge : w.heap.size ≤ g7
  r : JacX wr (.agg q) a
  p : RowX wr vp n
  b : PtX wr (.agg PB) (some B)
  s : q.size = 6
theorem TW.on {w wr w' : World} {g7 : Nat} {PB q ZJ : Array Value} {vp : Value} {B : Pn × Pn} {a : Pn × Pn × Pn} {n : Nat} (h : TW w wr g7 PB q ZJ vp B a n) (b : Below wr.heap.size wr w') : TW w w' g7 PB q ZJ vp B a n :=
  ⟨h.g.on b, h.ap, h.ge, h.r.below b, h.p.below b, h.b.below b, h.s⟩
theorem TW.put {w wr : World} {g7 : Nat} {PB q q' ZJ : Array Value} {vp : Value} {B : Pn × Pn} {a a' : Pn × Pn × Pn} {n : Nat} (h : TW w wr g7 PB q ZJ vp B a n) (r : JacX wr (.agg q') a') (s : q'.size = 6) : TW w (wr.setRow g7 q') g7 PB q' ZJ vp B a' n := by
  have hg : wr.heap[g7]? = some (.cells q 125 (0, 0)) := h.g.h _ (.head _)
  refine ⟨h.g.putAt h.ge h.ap q', h.ap, h.ge, r.setRow hg (by decide), h.p.setRow hg (by decide), ?_, s⟩
  obtain ⟨xa, xb, ya, yb, e, h1, h2, h3, h4⟩ := h.b
  exact ⟨xa, xb, ya, yb, e, RowX.setRow h1 hg (by decide), RowX.setRow h2 hg (by decide), RowX.setRow h3 hg (by decide), RowX.setRow h4 hg (by decide)⟩
set_option maxRecDepth 8000 in
set_option maxHeartbeats 8000000 in
theorem times_none {w : World} {vp : Value} {m : ByteArray} {B1 B2 B3 B4 : Option Addr} {m1 d1 m2 d2 m3 d3 m4 d4 : Nat} :
    Calls Tryz.prog 115 #[.string m, .agg (ptC true (.slice B1 m1 d1) (.slice B2 m2 d2) (.slice B3 m3 d3) (.slice B4 m4 d4)), vp] w (JacTo ((0, 0), (0, 0), (0, 0)) w) := by
  obtain ⟨PB, hPB⟩ : ∃ q, ptC true (.slice B1 m1 d1) (.slice B2 m2 d2) (.slice B3 m3 d3) (.slice B4 m4 d4) = q := ⟨_, rfl⟩
  have zB : PB[0]? = some (.bool true) := by rw [← hPB]; rfl
  have HG := Lib.hid (begun2 (Held.none w) PB #[.slice none 0 0, .slice none 0 0, .slice none 0 0, .slice none 0 0, .slice none 0 0, .slice none 0 0] 58 125)
  rw [hPB]
  clear hPB
  go_enter Tryz.func115, Tryz.ntmps115
  go_upto_region 1 with (fail)
  generalize (w.alloc _).alloc _ = v0 at *
  have AP := Lib.hid HG.out.h.apart
  have GE := Lib.hid HG.out.b.size
  have HN := Lib.hid (heap_alloc_new v0 (.cells #[.slice none 0 0, .slice none 0 0, .slice none 0 0, .slice none 0 0, .slice none 0 0, .slice none 0 0] 125))
  have HT := Lib.hid ((HG.out.new #[.slice none 0 0, .slice none 0 0, .slice none 0 0, .slice none 0 0, .slice none 0 0, .slice none 0 0] 125).putAt GE.out AP.out #[.slice none 0 0, .slice none 0 0, .slice none 0 0, .slice none 0 0, .slice none 0 0, .slice none 0 0])
  go_upto_region 2 with (first | refine build_v rfl 125 rfl #[.slice none 0 0, .slice none 0 0, .slice none 0 0, .slice none 0 0, .slice none 0 0, .slice none 0 0] built_j0 ?_ | refine store_v rfl 125 (.tmp 7) (.tmp 9) rfl v0.heap.size _ #[.slice none 0 0, .slice none 0 0, .slice none 0 0, .slice none 0 0, .slice none 0 0, .slice none 0 0] rfl rfl HN.out Tryz.infoJac rfl (by kernel_rfl) ?_)
  generalize (v0.alloc _).setRow _ _ = t0 at *
  clear HG AP HN GE
  generalize v0.heap.size = g7 at *
  have HBb := Lib.hid (show t0.heap[w.heap.size]? = some (.cells PB 58 (0, 0)) from HT.out.h _ (.tail _ (.head _)))
  have HX7 := Lib.hid (show t0.heap[g7]? = some (.cells #[.slice none 0 0, .slice none 0 0, .slice none 0 0, .slice none 0 0, .slice none 0 0, .slice none 0 0] 125 (0, 0)) from HT.out.h _ (.head _))
  have zb : t0.cell? ⟨w.heap.size, 0, none⟩ = some (.bool true) := (cell_of_row t0 w.heap.size 0 _ _ _ HBb.out).trans zB
  have HE := Lib.hid (HT.out.put (show w.heap.size ≤ w.heap.size + 1 by omega) #[.slice none 0 0, .slice none 0 0, .slice none 0 0, .slice none 0 0, .slice none 0 0, .slice none 0 0])
  have HO := Lib.hid HT.out.out
  go_wp2_with (first | refine load_v rfl 125 (.tmp 7) rfl g7 #[.slice none 0 0, .slice none 0 0, .slice none 0 0, .slice none 0 0, .slice none 0 0, .slice none 0 0] rfl HX7.out Tryz.underlying125 rfl Tryz.infoJac ?_ | refine store_v rfl 125 (.tmp 6) (.tmp 12) rfl (w.heap.size + 1) _ #[.slice none 0 0, .slice none 0 0, .slice none 0 0, .slice none 0 0, .slice none 0 0, .slice none 0 0] rfl rfl HO.out Tryz.infoJac rfl (by kernel_rfl) ?_)
  exact bodyPost_ret (results_cell_row Tryz.results115 _ _ (w.heap.size + 1) _ _ _ _ rfl HE.out.out Tryz.underlying125 rfl Tryz.infoJac) rfl ⟨_, rfl, jac_none _, HE.out.b⟩
end Go.Proofs.YtkmmlfocidfghaaGreat

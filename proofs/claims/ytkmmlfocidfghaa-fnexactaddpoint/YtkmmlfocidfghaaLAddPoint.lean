/-
  Proved: for every int and any two points of texts laws.FnExactAddPoint returns true: impl.AddPoint answers as its model. Conditions: none.
-/
import Derived.Test.YtkmmlfocidfghaaRows
import Derived.WalkKit
import Derived.ProofKit
import Derived.OpenShut
import Derived.ShutString
import Derived.ChangeOld
import Derived.Below
import Derived.Lib.SmallJoins
import Derived.Test.YtkmmlfocidfghaaZPtX
import Derived.Test.YtkmmlfocidfghaaZPi
import Derived.Test.YtkmmlfocidfghaaZAddB
namespace Go.Proofs.Ytkmmlfocidfghaa.fnExactAddPoint
open Go.ChangeShapes Go.WideShapes Go.ChangeAt Go.RowKit
open Go.ChangeMaps (open_string shut_string)
set_option linter.unusedVariables false
set_option maxRecDepth 8000 in
set_option maxHeartbeats 4000000 in
theorem walk (a0 : Int) (a1z : Bool) (a1a a1b : ByteArray) (a2z : Bool) (a2a a2b : ByteArray) (w : World) (_w0 : (Lit.int .i64 a0).wf = true) (w1a : a1a.size ≤ maxLen) (w1b : a1b.size ≤ maxLen) (w2a : a2a.size ≤ maxLen) (w2b : a2b.size ≤ maxLen) :
    Calls Try.prog 6 #[.int .i64 a0, .agg #[.bool a1z, .string a1a, .string a1b], .agg #[.bool a2z, .string a2a, .string a2b]] w fun e w' => e = .returned (.bool true) ∧ Below w.heap.size w w' := by
  unfold maxLen at w1a w1b w2a w2b
  obtain ⟨x, hx⟩ : ∃ x : Tp, (a1z, a1a, a1b) = x := ⟨_, rfl⟩
  have hvx : Value.agg #[.bool a1z, .string a1a, .string a1b] = .agg (tpT x) := by rw [← hx]; rfl
  have k1x : x.2.1.size ≤ 9223372036854775807 := by rw [← hx]; exact w1a
  have k2x : x.2.2.size ≤ 9223372036854775807 := by rw [← hx]; exact w1b
  rw [hvx]
  clear hvx hx w1a w1b
  obtain ⟨y, hy⟩ : ∃ x : Tp, (a2z, a2a, a2b) = x := ⟨_, rfl⟩
  have hvy : Value.agg #[.bool a2z, .string a2a, .string a2b] = .agg (tpT y) := by rw [← hy]; rfl
  have k1y : y.2.1.size ≤ 9223372036854775807 := by rw [← hy]; exact w2a
  have k2y : y.2.2.size ≤ 9223372036854775807 := by rw [← hy]; exact w2b
  rw [hvy]
  clear hvy hy w2a w2b
  have HG := Lib.hid (stand2 w (tpT x) (tpT y) 23 23)
  have HZx := Lib.hid (fun w => szPoint_any x 1048576 w (by omega) k1x k2x)
  have HTx := Lib.hid (toPoint_any x)
  have HTy := Lib.hid (toPoint_any y)
  have HSp := Lib.hid (addPoint_any a0 x y)
  have HIm := Lib.hid (addPoint_i a0 x y)
  obtain ⟨zx, hzx⟩ : ∃ z, szT x 1048576 = z := ⟨_, rfl⟩
  have lx : 0 ≤ szT x 1048576 → 0 ≤ szT x 1048576 ∧ szT x 1048576 ≤ 1048576 := szG_le (by omega)
  rw [hzx] at HZx lx
  have HZy := Lib.hid (fun w (h : 0 ≤ zx ∧ zx ≤ 1048576) => szPoint_any y zx w h k1y k2y)
  obtain ⟨zy, hzy⟩ : ∃ z, szT y zx = z := ⟨_, rfl⟩
  rw [hzy] at HZy
  generalize addPtG a0 x y = r at *
  clear hzx k1x k2x hzy k1y k2y
  go_enter Try.func6, Try.ntmps6
  go_upto_region 1 with (fail)
  generalize (w.alloc _).alloc _ = w0 at *
  go_wp2_with (first | refine load_v rfl 23 (.tmp 4) rfl w.heap.size (tpT x) rfl (HG.out.h _ (.tail _ (.head _))) Try.underlying23 rfl Try.infoLPt ?_)
  refine (HZx.out _).mono ?_
  rintro e w1 ⟨rfl, b1⟩
  replace HG := Lib.hid (HG.out.on b1)
  clear b1 HZx
  by_cases hz : zx < 0
  · go_wp2
    go_ret
    exact ⟨rfl, HG.out.b⟩
  have HZy2 := Lib.hid (fun w => HZy.out w (lx (by omega)))
  clear HZy
  go_wp2_with (first | refine load_v rfl 23 (.tmp 5) rfl (w.heap.size + 1) (tpT y) rfl (HG.out.h _ (.head _)) Try.underlying23 rfl Try.infoLPt ?_)
  refine (HZy2.out _).mono ?_
  rintro e w2 ⟨rfl, b2⟩
  replace HG := Lib.hid (HG.out.on b2)
  clear b2 HZy2
  by_cases hz2 : zy < 0
  · go_wp2
    go_ret
    exact ⟨rfl, HG.out.b⟩
  clear lx
  go_upto_region 8 with (fail)
  have HS := Lib.hid HG.out.h
  refine Code.wp_mono (Q := fun e a' w' => e = .normal ∧ ∃ (g4 : Nat), a' = { tmps := List.toArray ([.int .i64 a0, .agg (tpT x), .agg (tpT y), undef, .pointer (some ⟨w.heap.size, 0, none⟩), .pointer (some ⟨(w.heap.size + 1), 0, none⟩), .bool false, .int .i64 zy, .pointer (some ⟨g4, 0, none⟩), undef, .agg (tpT x), .int .i64 1048576, .int .i64 zx, .int .i64 zx, .bool (decide (zx < 0)), .agg (tpT y), .int .i64 zx, .int .i64 zy, .int .i64 zy, .bool (decide (zy < 0)), .int .i64 a0, .agg (tpT x), .agg (tpT x), .agg (tpT y), .agg (tpT y), .agg (tpT r), undef, undef, undef, undef, undef, undef, undef, undef, undef, undef]), defers := [] } ∧ Stand w w' [(g4, tpT r, 26), (w.heap.size + 1, tpT y, 23), (w.heap.size, tpT x, 23)]) ?_ ?_
  rotate_left
  · refine m_begin (S := fun w' => Held w' [(w.heap.size + 1, tpT y, 23), (w.heap.size, tpT x, 23)]) (by kernel_rfl) 8 (by kernel_rfl) ?_
    replace HG := Lib.hid HG.out.drew
    change wpM _ _ _ _ _ _ _ _ (World.drew _)
    generalize World.drew w2 = v400 at *
    have HS := Lib.hid HG.out.h
    refine m_seq (f := 5) (infoS _) [(true, 0), (true, 1), (true, 3)] 11 (tells_infoS _ _) (by kernel_rfl) (fun _ _ _ _ _ h => by cases h.1) (by kernel_rfl) (by kernel_rfl) (by kernel_rfl) HS.out ?_
    refine sq_ps [(0, .int .i64 a0)] (by kernel_rfl) ?_
    refine sq_ld (some 21) (ld_lp (.tail _ (.head _)) (by kernel_rfl)) (by kernel_rfl) ?_
    refine sq_ld (some 23) (ld_lp (.head _) (by kernel_rfl)) (by kernel_rfl) ?_
    refine sq_done ?_
    refine m_mask (M' := 11) (by kernel_rfl) ?_
    refine m_ways (f := 4) (infoS _) [2, 6] (tells_infoS _ _) (by kernel_rfl) (by kernel_rfl) (by kernel_rfl) ?_
    intro i hi
    rcases (by simpa using hi : i = 2 ∨ i = 6) with rfl | rfl
    · refine sq_c (some 22) Try.func10 (HTx.out _) (by kernel_rfl) ?_
      rintro e v401 ⟨rfl, bw⟩
      replace HG := Lib.hid (HG.out.on bw)
      have HS := Lib.hid (HG.out.h)
      clear bw
      refine ⟨_, rfl, HS.out, ?_⟩
      refine sq_done ?_
      refine m_mask (M' := 15) (by kernel_rfl) ?_
      refine m_ways (f := 3) (infoS _) [4, 6] (tells_infoS _ _) (by kernel_rfl) (by kernel_rfl) (by kernel_rfl) ?_
      intro i hi
      rcases (by simpa using hi : i = 4 ∨ i = 6) with rfl | rfl
      · refine sq_c (some 24) Try.func10 (HTy.out _) (by kernel_rfl) ?_
        rintro e v402 ⟨rfl, bw⟩
        replace HG := Lib.hid (HG.out.on bw)
        have HS := Lib.hid (HG.out.h)
        clear bw
        refine ⟨_, rfl, HS.out, ?_⟩
        refine sq_done ?_
        refine m_mask (M' := 31) (by kernel_rfl) ?_
        refine m_ways (f := 2) (infoS _) [5, 6] (tells_infoS _ _) (by kernel_rfl) (by kernel_rfl) (by kernel_rfl) ?_
        intro i hi
        rcases (by simpa using hi : i = 5 ∨ i = 6) with rfl | rfl
        · refine sq_c (some 25) Try.func17 (HSp.out _) (by kernel_rfl) ?_
          rintro e v403 ⟨rfl, bw⟩
          replace HG := Lib.hid (HG.out.on bw)
          have HS := Lib.hid (HG.out.h)
          clear bw
          refine ⟨_, rfl, HS.out, ?_⟩
          refine sq_done ?_
          refine m_mask (M' := 63) (by kernel_rfl) ?_
          refine m_seq (f := 1) (infoS _) [(false, 6)] 127 (tells_infoS _ _) (by kernel_rfl) (fun _ _ _ _ _ h => by cases h.1) (by kernel_rfl) (by kernel_rfl) (by kernel_rfl) HS.out ?_
          have GEg4 := Lib.hid HG.out.b.size
          have APg4 := Lib.hid HG.out.h.apart
          replace HG := Lib.hid (HG.out.new (tpT noT) 26)
          have HS := Lib.hid (HG.out.h.tail)
          refine sq_alloc (some 8) 26 (tpT noT) (by kernel_rfl) (by kernel_rfl) (by kernel_rfl) (by kernel_rfl) (zero_pt _) HS.out ?_
          generalize v403.alloc _ = u404 at *
          generalize v403.heap.size = g4 at *
          refine sq_done ?_
          refine m_mask (M' := 127) (by kernel_rfl) ?_
          refine m_seq (f := 0) (infoS _) [(false, 7)] 255 (tells_infoS _ _) (by kernel_rfl) (fun _ _ _ _ _ h => by cases h.1) (by kernel_rfl) (by kernel_rfl) (by kernel_rfl) HS.out ?_
          have HN := Lib.hid (HG.out.h _ (.head _))
          replace HG := Lib.hid (HG.out.putAt GEg4.out APg4.out (tpT r))
          have HS := Lib.hid (HG.out.h.tail)
          refine sq_st 26 g4 (tpT r) HN.out Try.infoPoint rfl (by kernel_rfl) HS.out (by kernel_rfl) ?_
          clear HN
          generalize World.setRow _ g4 _ = t405 at *
          refine sq_done ?_
          refine m_mask (M' := 255) (by kernel_rfl) ?_
          refine m_done (infoS _) (tells_infoS _ _) (by kernel_rfl) { tmps := List.toArray ([.int .i64 a0, .agg (tpT x), .agg (tpT y), undef, .pointer (some ⟨w.heap.size, 0, none⟩), .pointer (some ⟨(w.heap.size + 1), 0, none⟩), .bool false, .int .i64 zy, .pointer (some ⟨g4, 0, none⟩), undef, .agg (tpT x), .int .i64 1048576, .int .i64 zx, .int .i64 zx, .bool (decide (zx < 0)), .agg (tpT y), .int .i64 zx, .int .i64 zy, .int .i64 zy, .bool (decide (zy < 0)), .int .i64 a0, .agg (tpT x), .agg (tpT x), .agg (tpT y), .agg (tpT y), .agg (tpT r), undef, undef, undef, undef, undef, undef, undef, undef, undef, undef]), defers := [] } (by kernel_rfl) ?_
          exact ⟨rfl, g4, rfl, HG.out⟩
        · have GEg4 := Lib.hid HG.out.b.size
          have APg4 := Lib.hid HG.out.h.apart
          replace HG := Lib.hid (HG.out.new (tpT noT) 26)
          have HS := Lib.hid (HG.out.h.tail)
          refine sq_alloc (some 8) 26 (tpT noT) (by kernel_rfl) (by kernel_rfl) (by kernel_rfl) (by kernel_rfl) (zero_pt _) HS.out ?_
          generalize v402.alloc _ = u406 at *
          generalize v402.heap.size = g4 at *
          refine sq_done ?_
          refine m_mask (M' := 95) (by kernel_rfl) ?_
          refine m_seq (f := 1) (infoS _) [(false, 5)] 127 (tells_infoS _ _) (by kernel_rfl) (fun _ _ _ _ _ h => by cases h.1) (by kernel_rfl) (by kernel_rfl) (by kernel_rfl) HS.out ?_
          refine sq_c (some 25) Try.func17 (HSp.out _) (by kernel_rfl) ?_
          rintro e v407 ⟨rfl, bw⟩
          replace HG := Lib.hid (HG.out.on bw)
          have HS := Lib.hid (HG.out.h.tail)
          clear bw
          refine ⟨_, rfl, HS.out, ?_⟩
          refine sq_done ?_
          refine m_mask (M' := 127) (by kernel_rfl) ?_
          refine m_seq (f := 0) (infoS _) [(false, 7)] 255 (tells_infoS _ _) (by kernel_rfl) (fun _ _ _ _ _ h => by cases h.1) (by kernel_rfl) (by kernel_rfl) (by kernel_rfl) HS.out ?_
          have HN := Lib.hid (HG.out.h _ (.head _))
          replace HG := Lib.hid (HG.out.putAt GEg4.out APg4.out (tpT r))
          have HS := Lib.hid (HG.out.h.tail)
          refine sq_st 26 g4 (tpT r) HN.out Try.infoPoint rfl (by kernel_rfl) HS.out (by kernel_rfl) ?_
          clear HN
          generalize World.setRow _ g4 _ = t408 at *
          refine sq_done ?_
          refine m_mask (M' := 255) (by kernel_rfl) ?_
          refine m_done (infoS _) (tells_infoS _ _) (by kernel_rfl) { tmps := List.toArray ([.int .i64 a0, .agg (tpT x), .agg (tpT y), undef, .pointer (some ⟨w.heap.size, 0, none⟩), .pointer (some ⟨(w.heap.size + 1), 0, none⟩), .bool false, .int .i64 zy, .pointer (some ⟨g4, 0, none⟩), undef, .agg (tpT x), .int .i64 1048576, .int .i64 zx, .int .i64 zx, .bool (decide (zx < 0)), .agg (tpT y), .int .i64 zx, .int .i64 zy, .int .i64 zy, .bool (decide (zy < 0)), .int .i64 a0, .agg (tpT x), .agg (tpT x), .agg (tpT y), .agg (tpT y), .agg (tpT r), undef, undef, undef, undef, undef, undef, undef, undef, undef, undef]), defers := [] } (by kernel_rfl) ?_
          exact ⟨rfl, g4, rfl, HG.out⟩
      · have GEg4 := Lib.hid HG.out.b.size
        have APg4 := Lib.hid HG.out.h.apart
        replace HG := Lib.hid (HG.out.new (tpT noT) 26)
        have HS := Lib.hid (HG.out.h.tail)
        refine sq_alloc (some 8) 26 (tpT noT) (by kernel_rfl) (by kernel_rfl) (by kernel_rfl) (by kernel_rfl) (zero_pt _) HS.out ?_
        generalize v401.alloc _ = u409 at *
        generalize v401.heap.size = g4 at *
        refine sq_done ?_
        refine m_mask (M' := 79) (by kernel_rfl) ?_
        refine m_seq (f := 2) (infoS _) [(false, 4)] 95 (tells_infoS _ _) (by kernel_rfl) (fun _ _ _ _ _ h => by cases h.1) (by kernel_rfl) (by kernel_rfl) (by kernel_rfl) HS.out ?_
        refine sq_c (some 24) Try.func10 (HTy.out _) (by kernel_rfl) ?_
        rintro e v410 ⟨rfl, bw⟩
        replace HG := Lib.hid (HG.out.on bw)
        have HS := Lib.hid (HG.out.h.tail)
        clear bw
        refine ⟨_, rfl, HS.out, ?_⟩
        refine sq_done ?_
        refine m_mask (M' := 95) (by kernel_rfl) ?_
        refine m_seq (f := 1) (infoS _) [(false, 5)] 127 (tells_infoS _ _) (by kernel_rfl) (fun _ _ _ _ _ h => by cases h.1) (by kernel_rfl) (by kernel_rfl) (by kernel_rfl) HS.out ?_
        refine sq_c (some 25) Try.func17 (HSp.out _) (by kernel_rfl) ?_
        rintro e v411 ⟨rfl, bw⟩
        replace HG := Lib.hid (HG.out.on bw)
        have HS := Lib.hid (HG.out.h.tail)
        clear bw
        refine ⟨_, rfl, HS.out, ?_⟩
        refine sq_done ?_
        refine m_mask (M' := 127) (by kernel_rfl) ?_
        refine m_seq (f := 0) (infoS _) [(false, 7)] 255 (tells_infoS _ _) (by kernel_rfl) (fun _ _ _ _ _ h => by cases h.1) (by kernel_rfl) (by kernel_rfl) (by kernel_rfl) HS.out ?_
        have HN := Lib.hid (HG.out.h _ (.head _))
        replace HG := Lib.hid (HG.out.putAt GEg4.out APg4.out (tpT r))
        have HS := Lib.hid (HG.out.h.tail)
        refine sq_st 26 g4 (tpT r) HN.out Try.infoPoint rfl (by kernel_rfl) HS.out (by kernel_rfl) ?_
        clear HN
        generalize World.setRow _ g4 _ = t412 at *
        refine sq_done ?_
        refine m_mask (M' := 255) (by kernel_rfl) ?_
        refine m_done (infoS _) (tells_infoS _ _) (by kernel_rfl) { tmps := List.toArray ([.int .i64 a0, .agg (tpT x), .agg (tpT y), undef, .pointer (some ⟨w.heap.size, 0, none⟩), .pointer (some ⟨(w.heap.size + 1), 0, none⟩), .bool false, .int .i64 zy, .pointer (some ⟨g4, 0, none⟩), undef, .agg (tpT x), .int .i64 1048576, .int .i64 zx, .int .i64 zx, .bool (decide (zx < 0)), .agg (tpT y), .int .i64 zx, .int .i64 zy, .int .i64 zy, .bool (decide (zy < 0)), .int .i64 a0, .agg (tpT x), .agg (tpT x), .agg (tpT y), .agg (tpT y), .agg (tpT r), undef, undef, undef, undef, undef, undef, undef, undef, undef, undef]), defers := [] } (by kernel_rfl) ?_
        exact ⟨rfl, g4, rfl, HG.out⟩
    · have GEg4 := Lib.hid HG.out.b.size
      have APg4 := Lib.hid HG.out.h.apart
      replace HG := Lib.hid (HG.out.new (tpT noT) 26)
      have HS := Lib.hid (HG.out.h.tail)
      refine sq_alloc (some 8) 26 (tpT noT) (by kernel_rfl) (by kernel_rfl) (by kernel_rfl) (by kernel_rfl) (zero_pt _) HS.out ?_
      generalize v400.alloc _ = u413 at *
      generalize v400.heap.size = g4 at *
      refine sq_done ?_
      refine m_mask (M' := 75) (by kernel_rfl) ?_
      refine m_seq (f := 3) (infoS _) [(false, 2)] 79 (tells_infoS _ _) (by kernel_rfl) (fun _ _ _ _ _ h => by cases h.1) (by kernel_rfl) (by kernel_rfl) (by kernel_rfl) HS.out ?_
      refine sq_c (some 22) Try.func10 (HTx.out _) (by kernel_rfl) ?_
      rintro e v414 ⟨rfl, bw⟩
      replace HG := Lib.hid (HG.out.on bw)
      have HS := Lib.hid (HG.out.h.tail)
      clear bw
      refine ⟨_, rfl, HS.out, ?_⟩
      refine sq_done ?_
      refine m_mask (M' := 79) (by kernel_rfl) ?_
      refine m_seq (f := 2) (infoS _) [(false, 4)] 95 (tells_infoS _ _) (by kernel_rfl) (fun _ _ _ _ _ h => by cases h.1) (by kernel_rfl) (by kernel_rfl) (by kernel_rfl) HS.out ?_
      refine sq_c (some 24) Try.func10 (HTy.out _) (by kernel_rfl) ?_
      rintro e v415 ⟨rfl, bw⟩
      replace HG := Lib.hid (HG.out.on bw)
      have HS := Lib.hid (HG.out.h.tail)
      clear bw
      refine ⟨_, rfl, HS.out, ?_⟩
      refine sq_done ?_
      refine m_mask (M' := 95) (by kernel_rfl) ?_
      refine m_seq (f := 1) (infoS _) [(false, 5)] 127 (tells_infoS _ _) (by kernel_rfl) (fun _ _ _ _ _ h => by cases h.1) (by kernel_rfl) (by kernel_rfl) (by kernel_rfl) HS.out ?_
      refine sq_c (some 25) Try.func17 (HSp.out _) (by kernel_rfl) ?_
      rintro e v416 ⟨rfl, bw⟩
      replace HG := Lib.hid (HG.out.on bw)
      have HS := Lib.hid (HG.out.h.tail)
      clear bw
      refine ⟨_, rfl, HS.out, ?_⟩
      refine sq_done ?_
      refine m_mask (M' := 127) (by kernel_rfl) ?_
      refine m_seq (f := 0) (infoS _) [(false, 7)] 255 (tells_infoS _ _) (by kernel_rfl) (fun _ _ _ _ _ h => by cases h.1) (by kernel_rfl) (by kernel_rfl) (by kernel_rfl) HS.out ?_
      have HN := Lib.hid (HG.out.h _ (.head _))
      replace HG := Lib.hid (HG.out.putAt GEg4.out APg4.out (tpT r))
      have HS := Lib.hid (HG.out.h.tail)
      refine sq_st 26 g4 (tpT r) HN.out Try.infoPoint rfl (by kernel_rfl) HS.out (by kernel_rfl) ?_
      clear HN
      generalize World.setRow _ g4 _ = t417 at *
      refine sq_done ?_
      refine m_mask (M' := 255) (by kernel_rfl) ?_
      refine m_done (infoS _) (tells_infoS _ _) (by kernel_rfl) { tmps := List.toArray ([.int .i64 a0, .agg (tpT x), .agg (tpT y), undef, .pointer (some ⟨w.heap.size, 0, none⟩), .pointer (some ⟨(w.heap.size + 1), 0, none⟩), .bool false, .int .i64 zy, .pointer (some ⟨g4, 0, none⟩), undef, .agg (tpT x), .int .i64 1048576, .int .i64 zx, .int .i64 zx, .bool (decide (zx < 0)), .agg (tpT y), .int .i64 zx, .int .i64 zy, .int .i64 zy, .bool (decide (zy < 0)), .int .i64 a0, .agg (tpT x), .agg (tpT x), .agg (tpT y), .agg (tpT y), .agg (tpT r), undef, undef, undef, undef, undef, undef, undef, undef, undef, undef]), defers := [] } (by kernel_rfl) ?_
      exact ⟨rfl, g4, rfl, HG.out⟩
  rintro e a t4 ⟨rfl, g4, rfl, hG⟩
  replace HG := Lib.hid hG
  clear hG
  refine (by assumption : ∀ (a : Act) (w_1 : World), Code.wp _ _ _ a w_1 → _) _ _ ?_
  go_upto_region 9 with (fail)
  replace HS := Lib.hid HG.out.h
  refine Code.wp_mono (Q := fun e a' w' => e = .normal ∧ ∃ (g5 : Nat), a' = { tmps := List.toArray ([.int .i64 a0, .agg (tpT x), .agg (tpT y), undef, .pointer (some ⟨w.heap.size, 0, none⟩), .pointer (some ⟨(w.heap.size + 1), 0, none⟩), .bool false, .int .i64 zy, .pointer (some ⟨g4, 0, none⟩), .pointer (some ⟨g5, 0, none⟩), .agg (tpT x), .int .i64 1048576, .int .i64 zx, .int .i64 zx, .bool (decide (zx < 0)), .agg (tpT y), .int .i64 zx, .int .i64 zy, .int .i64 zy, .bool (decide (zy < 0)), .int .i64 a0, .agg (tpT x), .agg (tpT x), .agg (tpT y), .agg (tpT y), .agg (tpT r), .int .i64 a0, .agg (tpT x), .agg (tpT x), .agg (tpT y), .agg (tpT y), .agg (tpT r), undef, undef, undef, undef]), defers := [] } ∧ Stand w w' [(g5, tpT r, 26), (g4, tpT r, 26), (w.heap.size + 1, tpT y, 23), (w.heap.size, tpT x, 23)]) ?_ ?_
  rotate_left
  · refine m_begin (S := fun w' => Held w' [(g4, tpT r, 26), (w.heap.size + 1, tpT y, 23), (w.heap.size, tpT x, 23)]) (by kernel_rfl) 8 (by kernel_rfl) ?_
    replace HG := Lib.hid HG.out.drew
    change wpM _ _ _ _ _ _ _ _ (World.drew _)
    generalize World.drew t4 = v500 at *
    have HS := Lib.hid HG.out.h
    refine m_seq (f := 5) (infoS _) [(true, 0), (true, 1), (true, 3)] 11 (tells_infoS _ _) (by kernel_rfl) (fun _ _ _ _ _ h => by cases h.1) (by kernel_rfl) (by kernel_rfl) (by kernel_rfl) HS.out ?_
    refine sq_ps [(0, .int .i64 a0)] (by kernel_rfl) ?_
    refine sq_ld (some 27) (ld_lp (.tail _ (.tail _ (.head _))) (by kernel_rfl)) (by kernel_rfl) ?_
    refine sq_ld (some 29) (ld_lp (.tail _ (.head _)) (by kernel_rfl)) (by kernel_rfl) ?_
    refine sq_done ?_
    refine m_mask (M' := 11) (by kernel_rfl) ?_
    refine m_ways (f := 4) (infoS _) [2, 6] (tells_infoS _ _) (by kernel_rfl) (by kernel_rfl) (by kernel_rfl) ?_
    intro i hi
    rcases (by simpa using hi : i = 2 ∨ i = 6) with rfl | rfl
    · refine sq_c (some 28) Try.func10 (HTx.out _) (by kernel_rfl) ?_
      rintro e v501 ⟨rfl, bw⟩
      replace HG := Lib.hid (HG.out.on bw)
      have HS := Lib.hid (HG.out.h)
      clear bw
      refine ⟨_, rfl, HS.out, ?_⟩
      refine sq_done ?_
      refine m_mask (M' := 15) (by kernel_rfl) ?_
      refine m_ways (f := 3) (infoS _) [4, 6] (tells_infoS _ _) (by kernel_rfl) (by kernel_rfl) (by kernel_rfl) ?_
      intro i hi
      rcases (by simpa using hi : i = 4 ∨ i = 6) with rfl | rfl
      · refine sq_c (some 30) Try.func10 (HTy.out _) (by kernel_rfl) ?_
        rintro e v502 ⟨rfl, bw⟩
        replace HG := Lib.hid (HG.out.on bw)
        have HS := Lib.hid (HG.out.h)
        clear bw
        refine ⟨_, rfl, HS.out, ?_⟩
        refine sq_done ?_
        refine m_mask (M' := 31) (by kernel_rfl) ?_
        refine m_ways (f := 2) (infoS _) [5, 6] (tells_infoS _ _) (by kernel_rfl) (by kernel_rfl) (by kernel_rfl) ?_
        intro i hi
        rcases (by simpa using hi : i = 5 ∨ i = 6) with rfl | rfl
        · refine sq_c (some 31) Try.func18 (HIm.out _) (by kernel_rfl) ?_
          rintro e v503 ⟨rfl, bw⟩
          replace HG := Lib.hid (HG.out.on bw)
          have HS := Lib.hid (HG.out.h)
          clear bw
          refine ⟨_, rfl, HS.out, ?_⟩
          refine sq_done ?_
          refine m_mask (M' := 63) (by kernel_rfl) ?_
          refine m_seq (f := 1) (infoS _) [(false, 6)] 127 (tells_infoS _ _) (by kernel_rfl) (fun _ _ _ _ _ h => by cases h.1) (by kernel_rfl) (by kernel_rfl) (by kernel_rfl) HS.out ?_
          have GEg5 := Lib.hid HG.out.b.size
          have APg5 := Lib.hid HG.out.h.apart
          replace HG := Lib.hid (HG.out.new (tpT noT) 26)
          have HS := Lib.hid (HG.out.h.tail)
          refine sq_alloc (some 9) 26 (tpT noT) (by kernel_rfl) (by kernel_rfl) (by kernel_rfl) (by kernel_rfl) (zero_pt _) HS.out ?_
          generalize v503.alloc _ = u504 at *
          generalize v503.heap.size = g5 at *
          refine sq_done ?_
          refine m_mask (M' := 127) (by kernel_rfl) ?_
          refine m_seq (f := 0) (infoS _) [(false, 7)] 255 (tells_infoS _ _) (by kernel_rfl) (fun _ _ _ _ _ h => by cases h.1) (by kernel_rfl) (by kernel_rfl) (by kernel_rfl) HS.out ?_
          have HN := Lib.hid (HG.out.h _ (.head _))
          replace HG := Lib.hid (HG.out.putAt GEg5.out APg5.out (tpT r))
          have HS := Lib.hid (HG.out.h.tail)
          refine sq_st 26 g5 (tpT r) HN.out Try.infoPoint rfl (by kernel_rfl) HS.out (by kernel_rfl) ?_
          clear HN
          generalize World.setRow _ g5 _ = t505 at *
          refine sq_done ?_
          refine m_mask (M' := 255) (by kernel_rfl) ?_
          refine m_done (infoS _) (tells_infoS _ _) (by kernel_rfl) { tmps := List.toArray ([.int .i64 a0, .agg (tpT x), .agg (tpT y), undef, .pointer (some ⟨w.heap.size, 0, none⟩), .pointer (some ⟨(w.heap.size + 1), 0, none⟩), .bool false, .int .i64 zy, .pointer (some ⟨g4, 0, none⟩), .pointer (some ⟨g5, 0, none⟩), .agg (tpT x), .int .i64 1048576, .int .i64 zx, .int .i64 zx, .bool (decide (zx < 0)), .agg (tpT y), .int .i64 zx, .int .i64 zy, .int .i64 zy, .bool (decide (zy < 0)), .int .i64 a0, .agg (tpT x), .agg (tpT x), .agg (tpT y), .agg (tpT y), .agg (tpT r), .int .i64 a0, .agg (tpT x), .agg (tpT x), .agg (tpT y), .agg (tpT y), .agg (tpT r), undef, undef, undef, undef]), defers := [] } (by kernel_rfl) ?_
          exact ⟨rfl, g5, rfl, HG.out⟩
        · have GEg5 := Lib.hid HG.out.b.size
          have APg5 := Lib.hid HG.out.h.apart
          replace HG := Lib.hid (HG.out.new (tpT noT) 26)
          have HS := Lib.hid (HG.out.h.tail)
          refine sq_alloc (some 9) 26 (tpT noT) (by kernel_rfl) (by kernel_rfl) (by kernel_rfl) (by kernel_rfl) (zero_pt _) HS.out ?_
          generalize v502.alloc _ = u506 at *
          generalize v502.heap.size = g5 at *
          refine sq_done ?_
          refine m_mask (M' := 95) (by kernel_rfl) ?_
          refine m_seq (f := 1) (infoS _) [(false, 5)] 127 (tells_infoS _ _) (by kernel_rfl) (fun _ _ _ _ _ h => by cases h.1) (by kernel_rfl) (by kernel_rfl) (by kernel_rfl) HS.out ?_
          refine sq_c (some 31) Try.func18 (HIm.out _) (by kernel_rfl) ?_
          rintro e v507 ⟨rfl, bw⟩
          replace HG := Lib.hid (HG.out.on bw)
          have HS := Lib.hid (HG.out.h.tail)
          clear bw
          refine ⟨_, rfl, HS.out, ?_⟩
          refine sq_done ?_
          refine m_mask (M' := 127) (by kernel_rfl) ?_
          refine m_seq (f := 0) (infoS _) [(false, 7)] 255 (tells_infoS _ _) (by kernel_rfl) (fun _ _ _ _ _ h => by cases h.1) (by kernel_rfl) (by kernel_rfl) (by kernel_rfl) HS.out ?_
          have HN := Lib.hid (HG.out.h _ (.head _))
          replace HG := Lib.hid (HG.out.putAt GEg5.out APg5.out (tpT r))
          have HS := Lib.hid (HG.out.h.tail)
          refine sq_st 26 g5 (tpT r) HN.out Try.infoPoint rfl (by kernel_rfl) HS.out (by kernel_rfl) ?_
          clear HN
          generalize World.setRow _ g5 _ = t508 at *
          refine sq_done ?_
          refine m_mask (M' := 255) (by kernel_rfl) ?_
          refine m_done (infoS _) (tells_infoS _ _) (by kernel_rfl) { tmps := List.toArray ([.int .i64 a0, .agg (tpT x), .agg (tpT y), undef, .pointer (some ⟨w.heap.size, 0, none⟩), .pointer (some ⟨(w.heap.size + 1), 0, none⟩), .bool false, .int .i64 zy, .pointer (some ⟨g4, 0, none⟩), .pointer (some ⟨g5, 0, none⟩), .agg (tpT x), .int .i64 1048576, .int .i64 zx, .int .i64 zx, .bool (decide (zx < 0)), .agg (tpT y), .int .i64 zx, .int .i64 zy, .int .i64 zy, .bool (decide (zy < 0)), .int .i64 a0, .agg (tpT x), .agg (tpT x), .agg (tpT y), .agg (tpT y), .agg (tpT r), .int .i64 a0, .agg (tpT x), .agg (tpT x), .agg (tpT y), .agg (tpT y), .agg (tpT r), undef, undef, undef, undef]), defers := [] } (by kernel_rfl) ?_
          exact ⟨rfl, g5, rfl, HG.out⟩
      · have GEg5 := Lib.hid HG.out.b.size
        have APg5 := Lib.hid HG.out.h.apart
        replace HG := Lib.hid (HG.out.new (tpT noT) 26)
        have HS := Lib.hid (HG.out.h.tail)
        refine sq_alloc (some 9) 26 (tpT noT) (by kernel_rfl) (by kernel_rfl) (by kernel_rfl) (by kernel_rfl) (zero_pt _) HS.out ?_
        generalize v501.alloc _ = u509 at *
        generalize v501.heap.size = g5 at *
        refine sq_done ?_
        refine m_mask (M' := 79) (by kernel_rfl) ?_
        refine m_seq (f := 2) (infoS _) [(false, 4)] 95 (tells_infoS _ _) (by kernel_rfl) (fun _ _ _ _ _ h => by cases h.1) (by kernel_rfl) (by kernel_rfl) (by kernel_rfl) HS.out ?_
        refine sq_c (some 30) Try.func10 (HTy.out _) (by kernel_rfl) ?_
        rintro e v510 ⟨rfl, bw⟩
        replace HG := Lib.hid (HG.out.on bw)
        have HS := Lib.hid (HG.out.h.tail)
        clear bw
        refine ⟨_, rfl, HS.out, ?_⟩
        refine sq_done ?_
        refine m_mask (M' := 95) (by kernel_rfl) ?_
        refine m_seq (f := 1) (infoS _) [(false, 5)] 127 (tells_infoS _ _) (by kernel_rfl) (fun _ _ _ _ _ h => by cases h.1) (by kernel_rfl) (by kernel_rfl) (by kernel_rfl) HS.out ?_
        refine sq_c (some 31) Try.func18 (HIm.out _) (by kernel_rfl) ?_
        rintro e v511 ⟨rfl, bw⟩
        replace HG := Lib.hid (HG.out.on bw)
        have HS := Lib.hid (HG.out.h.tail)
        clear bw
        refine ⟨_, rfl, HS.out, ?_⟩
        refine sq_done ?_
        refine m_mask (M' := 127) (by kernel_rfl) ?_
        refine m_seq (f := 0) (infoS _) [(false, 7)] 255 (tells_infoS _ _) (by kernel_rfl) (fun _ _ _ _ _ h => by cases h.1) (by kernel_rfl) (by kernel_rfl) (by kernel_rfl) HS.out ?_
        have HN := Lib.hid (HG.out.h _ (.head _))
        replace HG := Lib.hid (HG.out.putAt GEg5.out APg5.out (tpT r))
        have HS := Lib.hid (HG.out.h.tail)
        refine sq_st 26 g5 (tpT r) HN.out Try.infoPoint rfl (by kernel_rfl) HS.out (by kernel_rfl) ?_
        clear HN
        generalize World.setRow _ g5 _ = t512 at *
        refine sq_done ?_
        refine m_mask (M' := 255) (by kernel_rfl) ?_
        refine m_done (infoS _) (tells_infoS _ _) (by kernel_rfl) { tmps := List.toArray ([.int .i64 a0, .agg (tpT x), .agg (tpT y), undef, .pointer (some ⟨w.heap.size, 0, none⟩), .pointer (some ⟨(w.heap.size + 1), 0, none⟩), .bool false, .int .i64 zy, .pointer (some ⟨g4, 0, none⟩), .pointer (some ⟨g5, 0, none⟩), .agg (tpT x), .int .i64 1048576, .int .i64 zx, .int .i64 zx, .bool (decide (zx < 0)), .agg (tpT y), .int .i64 zx, .int .i64 zy, .int .i64 zy, .bool (decide (zy < 0)), .int .i64 a0, .agg (tpT x), .agg (tpT x), .agg (tpT y), .agg (tpT y), .agg (tpT r), .int .i64 a0, .agg (tpT x), .agg (tpT x), .agg (tpT y), .agg (tpT y), .agg (tpT r), undef, undef, undef, undef]), defers := [] } (by kernel_rfl) ?_
        exact ⟨rfl, g5, rfl, HG.out⟩
    · have GEg5 := Lib.hid HG.out.b.size
      have APg5 := Lib.hid HG.out.h.apart
      replace HG := Lib.hid (HG.out.new (tpT noT) 26)
      have HS := Lib.hid (HG.out.h.tail)
      refine sq_alloc (some 9) 26 (tpT noT) (by kernel_rfl) (by kernel_rfl) (by kernel_rfl) (by kernel_rfl) (zero_pt _) HS.out ?_
      generalize v500.alloc _ = u513 at *
      generalize v500.heap.size = g5 at *
      refine sq_done ?_
      refine m_mask (M' := 75) (by kernel_rfl) ?_
      refine m_seq (f := 3) (infoS _) [(false, 2)] 79 (tells_infoS _ _) (by kernel_rfl) (fun _ _ _ _ _ h => by cases h.1) (by kernel_rfl) (by kernel_rfl) (by kernel_rfl) HS.out ?_
      refine sq_c (some 28) Try.func10 (HTx.out _) (by kernel_rfl) ?_
      rintro e v514 ⟨rfl, bw⟩
      replace HG := Lib.hid (HG.out.on bw)
      have HS := Lib.hid (HG.out.h.tail)
      clear bw
      refine ⟨_, rfl, HS.out, ?_⟩
      refine sq_done ?_
      refine m_mask (M' := 79) (by kernel_rfl) ?_
      refine m_seq (f := 2) (infoS _) [(false, 4)] 95 (tells_infoS _ _) (by kernel_rfl) (fun _ _ _ _ _ h => by cases h.1) (by kernel_rfl) (by kernel_rfl) (by kernel_rfl) HS.out ?_
      refine sq_c (some 30) Try.func10 (HTy.out _) (by kernel_rfl) ?_
      rintro e v515 ⟨rfl, bw⟩
      replace HG := Lib.hid (HG.out.on bw)
      have HS := Lib.hid (HG.out.h.tail)
      clear bw
      refine ⟨_, rfl, HS.out, ?_⟩
      refine sq_done ?_
      refine m_mask (M' := 95) (by kernel_rfl) ?_
      refine m_seq (f := 1) (infoS _) [(false, 5)] 127 (tells_infoS _ _) (by kernel_rfl) (fun _ _ _ _ _ h => by cases h.1) (by kernel_rfl) (by kernel_rfl) (by kernel_rfl) HS.out ?_
      refine sq_c (some 31) Try.func18 (HIm.out _) (by kernel_rfl) ?_
      rintro e v516 ⟨rfl, bw⟩
      replace HG := Lib.hid (HG.out.on bw)
      have HS := Lib.hid (HG.out.h.tail)
      clear bw
      refine ⟨_, rfl, HS.out, ?_⟩
      refine sq_done ?_
      refine m_mask (M' := 127) (by kernel_rfl) ?_
      refine m_seq (f := 0) (infoS _) [(false, 7)] 255 (tells_infoS _ _) (by kernel_rfl) (fun _ _ _ _ _ h => by cases h.1) (by kernel_rfl) (by kernel_rfl) (by kernel_rfl) HS.out ?_
      have HN := Lib.hid (HG.out.h _ (.head _))
      replace HG := Lib.hid (HG.out.putAt GEg5.out APg5.out (tpT r))
      have HS := Lib.hid (HG.out.h.tail)
      refine sq_st 26 g5 (tpT r) HN.out Try.infoPoint rfl (by kernel_rfl) HS.out (by kernel_rfl) ?_
      clear HN
      generalize World.setRow _ g5 _ = t517 at *
      refine sq_done ?_
      refine m_mask (M' := 255) (by kernel_rfl) ?_
      refine m_done (infoS _) (tells_infoS _ _) (by kernel_rfl) { tmps := List.toArray ([.int .i64 a0, .agg (tpT x), .agg (tpT y), undef, .pointer (some ⟨w.heap.size, 0, none⟩), .pointer (some ⟨(w.heap.size + 1), 0, none⟩), .bool false, .int .i64 zy, .pointer (some ⟨g4, 0, none⟩), .pointer (some ⟨g5, 0, none⟩), .agg (tpT x), .int .i64 1048576, .int .i64 zx, .int .i64 zx, .bool (decide (zx < 0)), .agg (tpT y), .int .i64 zx, .int .i64 zy, .int .i64 zy, .bool (decide (zy < 0)), .int .i64 a0, .agg (tpT x), .agg (tpT x), .agg (tpT y), .agg (tpT y), .agg (tpT r), .int .i64 a0, .agg (tpT x), .agg (tpT x), .agg (tpT y), .agg (tpT y), .agg (tpT r), undef, undef, undef, undef]), defers := [] } (by kernel_rfl) ?_
      exact ⟨rfl, g5, rfl, HG.out⟩
  rintro e a t5 ⟨rfl, g5, rfl, hG⟩
  replace HG := Lib.hid hG
  clear hG
  refine (by assumption : ∀ (a : Act) (w_1 : World), Code.wp _ _ _ a w_1 → _) _ _ ?_
  go_upto_region 10 with (fail)
  replace HS := Lib.hid HG.out.h
  refine wp_region_line (S := fun w' => Held w' [(g5, tpT r, 26), (g4, tpT r, 26), (w.heap.size + 1, tpT y, 23), (w.heap.size, tpT x, 23)]) [(true, 0), (true, 1), (false, 2), (true, 3)] (by kernel_rfl) (by kernel_rfl) HS.out ?_
  refine sq_ld (some 32) (ld_pt (.head _) (by kernel_rfl)) (by kernel_rfl) ?_
  refine sq_ld (some 33) (ld_pt (.tail _ (.head _)) (by kernel_rfl)) (by kernel_rfl) ?_
  refine sq_c (some 34) Try.func14 (eqPoint_same r _) (by kernel_rfl) ?_
  rintro e v6 ⟨rfl, bw⟩
  replace HG := Lib.hid (HG.out.on bw)
  have HS := Lib.hid (HG.out.h)
  clear bw
  refine ⟨_, rfl, HS.out, ?_⟩
  refine sq_ps [(3, .bool false)] (by kernel_rfl) ?_
  refine sq_fin { tmps := List.toArray ([.int .i64 a0, .agg (tpT x), .agg (tpT y), undef, .pointer (some ⟨w.heap.size, 0, none⟩), .pointer (some ⟨(w.heap.size + 1), 0, none⟩), .bool false, .int .i64 zy, .pointer (some ⟨g4, 0, none⟩), .pointer (some ⟨g5, 0, none⟩), .agg (tpT x), .int .i64 1048576, .int .i64 zx, .int .i64 zx, .bool (decide (zx < 0)), .agg (tpT y), .int .i64 zx, .int .i64 zy, .int .i64 zy, .bool (decide (zy < 0)), .int .i64 a0, .agg (tpT x), .agg (tpT x), .agg (tpT y), .agg (tpT y), .agg (tpT r), .int .i64 a0, .agg (tpT x), .agg (tpT x), .agg (tpT y), .agg (tpT y), .agg (tpT r), .agg (tpT r), .agg (tpT r), .bool true, .bool false]), defers := [] } (by kernel_rfl) ?_
  refine (by assumption : ∀ (a : Act) (w_1 : World), Code.wp _ _ _ a w_1 → _) _ _ ?_
  go_wp2
  go_ret
  exact ⟨rfl, HG.out.b⟩

theorem own : ownKnob Try.prog.godebug = none := by kernel_rfl
theorem laidOut : laidOutB Try.prog = true := by kernel_rfl
set_option maxRecDepth 100000 in
theorem lifted (os : Os) (started : os.Started) (H : Type) (enc : TypeId × Value → H) :
    ReturnsInHanded {} Try.checked os 6 .any (Rows.fnExactAddPointSpec.pre6 enc Try.prog Try.f6 Rows.fnExactAddPointRow.domain false) (Rows.fnExactAddPointSpec.post enc Try.prog Try.f6 false true false false) := by
  refine returnsInHanded_of_change (C := Try.checked) own started (by kernel_rfl) Try.func6
    (ChangeSpec.witness6 (enc := enc) (C := Try.checked) false ⟨#[], #[.int .i64 0, .agg #[.bool false, .string ByteArray.empty, .string ByteArray.empty], .agg #[.bool false, .string ByteArray.empty, .string ByteArray.empty]], []⟩ 8 (by kernel_rfl) (by kernel_rfl) (by kernel_rfl) (by kernel_rfl)) ?_
  intro W base args ds gs before hval0 hW hcnd _
  have hval : ∀ (j : Nat) t v, Try.f6.params[j]? = some t → args[j]? = some v → Value.okWide Try.prog W .any base t v := hval0
  have hW' := hW
  obtain ⟨p, q, hA0, hV, rfl, hfz, hnd⟩ := hW
  have hA : DataW.TrodAll enc Try.prog W 0 (fun _ => true) true Try.f6.params.toList args.toList ds p := hA0
  rw [Try.params6] at hA hval
  obtain ⟨v0, vs0, d0, ds0, p0, q0, hargs, rfl, rfl, h0, r0⟩ := trodAll_cons hA
  obtain ⟨v1, vs1, d1, ds1, p1, q1, rfl, rfl, rfl, h1, r1⟩ := trodAll_cons r0
  obtain ⟨v2, vs2, d2, ds2, p2, q2, rfl, rfl, rfl, h2, r2⟩ := trodAll_cons r1
  obtain ⟨rfl, rfl, rfl⟩ := trodAll_nil r2
  obtain rfl : args = #[v0, v1, v2] := by cases args; simp_all
  obtain ⟨rfl, rfl⟩ := trodVars_none hV
  obtain ⟨a0, rfl, rfl, rfl, w0⟩ := open_int Try.underlying3 (hval 0 3 v0 rfl rfl) h0
  obtain ⟨c1z, c1a, c1b, y1z, y1a, y1b, m1, rfl, rfl, rfl, hy1z, hy1a, hy1b⟩ := Go.Joins.open_agg3 Try.underlying23 (by kernel_rfl) (show Try.prog.cellsOf 23 = 3 by kernel_rfl) (hval 1 23 v1 rfl rfl) h1
  obtain ⟨a1z, e1z, rfl⟩ := DataW.trod_bool Try.underlying4 hy1z
  obtain ⟨a1a, e1a, rfl, w1a⟩ := DataW.trod_string Try.underlying9 hy1a
  obtain ⟨a1b, e1b, rfl, w1b⟩ := DataW.trod_string Try.underlying9 hy1b
  simp only [List.cons.injEq, and_true] at e1z e1a e1b
  subst e1z e1a e1b
  obtain ⟨c2z, c2a, c2b, y2z, y2a, y2b, m2, rfl, rfl, rfl, hy2z, hy2a, hy2b⟩ := Go.Joins.open_agg3 Try.underlying23 (by kernel_rfl) (show Try.prog.cellsOf 23 = 3 by kernel_rfl) (hval 2 23 v2 rfl rfl) h2
  obtain ⟨a2z, e2z, rfl⟩ := DataW.trod_bool Try.underlying4 hy2z
  obtain ⟨a2a, e2a, rfl, w2a⟩ := DataW.trod_string Try.underlying9 hy2a
  obtain ⟨a2b, e2b, rfl, w2b⟩ := DataW.trod_string Try.underlying9 hy2b
  simp only [List.cons.injEq, and_true] at e2z e2a e2b
  subst e2z e2a e2b
  clear hA0 hval0
  simp only [List.append_nil] at hW'
  refine (walk a0 a1z a1a a1b a2z a2a a2b W w0 w1a w1b w2a w2b).mono fun e W' ⟨he, bel⟩ => ?_
  subst he
  exact ⟨_, rfl, _, _, _, [], [], [], hW', trodAll_mk1 (shut_bool Try.underlying4 _), (trodAll_cons_mk (shut_int Try.underlying3 w0) (trodAll_cons_mk (Go.Joins.shut_agg3 (y0 := (.lit (.bool a1z), [])) (y1 := (.lit (.string a1a.data.toList), [])) (y2 := (.lit (.string a1b.data.toList), [])) Try.underlying23 (by kernel_rfl) (show Try.prog.cellsOf 23 = 3 by kernel_rfl) ⟨1, by simp [DataW.trod, Try.underlying4]⟩ ⟨1, by simp [DataW.trod, Try.underlying9, w1a]⟩ ⟨1, by simp [DataW.trod, Try.underlying9, w1b]⟩) (trodAll_cons_mk (Go.Joins.shut_agg3 (y0 := (.lit (.bool a2z), [])) (y1 := (.lit (.string a2a.data.toList), [])) (y2 := (.lit (.string a2b.data.toList), [])) Try.underlying23 (by kernel_rfl) (show Try.prog.cellsOf 23 = 3 by kernel_rfl) ⟨1, by simp [DataW.trod, Try.underlying4]⟩ ⟨1, by simp [DataW.trod, Try.underlying9, w2a]⟩ ⟨1, by simp [DataW.trod, Try.underlying9, w2b]⟩) trodAll_mk0))), rfl, bel.frame _, fun h => by cases h⟩

theorem over : Rows.fnExactAddPointRow.holds Try.pinned (OpenSpec.ofChange Rows.fnExactAddPointSpec) :=
  OpenClaim.holds_of_wide 6 Try.f6 rfl rfl rfl rfl rfl rfl rfl ⟨rfl, rfl, rfl, rfl, rfl⟩ rfl rfl rfl rfl rfl (by kernel_rfl) Try.func6 (by kernel_rfl)
    (of_decide_eq_true (by kernel_rfl)) (by unfold Func.isWrapper; first | (rw [if_pos (by decide +kernel)]; kernel_rfl) | (rw [if_neg (by decide +kernel)]; exact ⟨rfl, rfl⟩))
    (fun os started H enc _ => lifted os started H enc)

theorem proved : Rows.FnExactAddPointSaid := over
end Go.Proofs.Ytkmmlfocidfghaa.fnExactAddPoint

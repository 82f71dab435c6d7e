/-
  Proved: for every two pairs of texts and every text laws.FnExactMulPair returns true: impl.MulPair answers as its model. Conditions: none.
-/
import Derived.Test.YtflfeepgkcamnaaRows
import Derived.WalkKit
import Derived.ProofKit
import Derived.OpenShut
import Derived.ShutString
import Derived.ChangeOld
import Derived.Below
import Derived.Lib.SmallJoins
import Derived.Test.YtflfeepgkcamnaaXPairs
import Derived.Test.YtflfeepgkcamnaaJPairF
import Derived.Test.YtflfeepgkcamnaaUOps
namespace Go.Proofs.Ytflfeepgkcamnaa.fnExactMulPair
open Go.ChangeShapes Go.WideShapes Go.ChangeAt Go.RowKit
open Go.ChangeMaps (open_string shut_string)
set_option linter.unusedVariables false
set_option maxRecDepth 8000 in
set_option maxHeartbeats 4000000 in
theorem walk (a0a a0b a1a a1b p : ByteArray) (w : World) (w0a : a0a.size ≤ maxLen) (w0b : a0b.size ≤ maxLen) (w1a : a1a.size ≤ maxLen) (w1b : a1b.size ≤ maxLen) (w2 : p.size ≤ maxLen) :
    Calls Try.prog 8 #[.agg #[.string a0a, .string a0b], .agg #[.string a1a, .string a1b], .string p] w fun e w' => e = .returned (.bool true) ∧ Below w.heap.size w w' := by
  unfold maxLen at w0a w0b w1a w1b w2
  obtain ⟨x, hx⟩ : ∃ x : Pt, (a0a, a0b) = x := ⟨_, rfl⟩
  have hvx : Value.agg #[.string a0a, .string a0b] = .agg (aggT x) := by rw [← hx]; rfl
  have kx1 : x.1.size ≤ 9223372036854775807 := by rw [← hx]; exact w0a
  have kx2 : x.2.size ≤ 9223372036854775807 := by rw [← hx]; exact w0b
  obtain ⟨y, hy⟩ : ∃ x : Pt, (a1a, a1b) = x := ⟨_, rfl⟩
  have hvy : Value.agg #[.string a1a, .string a1b] = .agg (aggT y) := by rw [← hy]; rfl
  have ky1 : y.1.size ≤ 9223372036854775807 := by rw [← hy]; exact w1a
  have ky2 : y.2.size ≤ 9223372036854775807 := by rw [← hy]; exact w1b
  rw [hvx, hvy]
  clear hvx hvy hx hy w0a w0b w1a w1b
  have HG := Lib.hid (stand2 w (aggT x) (aggT y) 42 42)
  have HX0 := Lib.hid (show _ = some (Obj.cells (aggT x) 42 (0, 0)) from HG.out.h (w.heap.size, aggT x, 42) (.tail _ (.head _)))
  obtain ⟨sp, hsp⟩ : ∃ s : Int, (p.size : Int) = s := ⟨_, rfl⟩
  by_cases hp : 1048576 < sp
  · have hdp : decide ((1048576 : Int) < (p.size : Int)) = true := by simp; omega
    clear kx1 kx2 ky1 ky2 w2
    go_enter Try.func8, Try.ntmps8
    go_wp2
    go_ret
    exact ⟨rfl, HG.out.b⟩
  have hdp : decide ((1048576 : Int) < sp) = false := by simp; omega
  have HZ := Lib.hid (fun w => szPair_any x 1048576 w (by omega) kx1 kx2)
  have HTx := Lib.hid (toPair_any x)
  have HTy := Lib.hid (toPair_any y)
  have HS := Lib.hid (mulPair_any x y p)
  have HI := Lib.hid (mulPair_i x y p)
  have HZle := Lib.hid (fun h => szG_le (x := x) (l := 1048576) (by omega) h)
  obtain ⟨z1, hz1⟩ : ∃ z, szG x 1048576 = z := ⟨_, rfl⟩
  rw [hz1] at HZ HZle
  have HZ2 := Lib.hid (fun w (h : 0 ≤ z1) => szPair_any y z1 w (HZle.out h) ky1 ky2)
  obtain ⟨z2, hz2⟩ : ∃ z, szG y z1 = z := ⟨_, rfl⟩
  rw [hz2] at HZ2
  generalize mulPG x y p = r at *
  clear hz1 hz2 kx1 kx2 ky1 ky2 w2 hp HZle
  go_enter Try.func8, Try.ntmps8
  go_wp2_with (first | refine load_v rfl 42 (.tmp 3) rfl w.heap.size (aggT x) rfl HX0.out Try.underlying42 rfl Try.infoLP ?_)
  generalize (w.alloc _).alloc _ = v0 at *
  refine (HZ.out _).mono ?_
  rintro e w1 ⟨rfl, b1⟩
  have HG1 := Lib.hid (HG.out.on b1)
  have HY1 := Lib.hid (show _ = some (Obj.cells (aggT y) 42 (0, 0)) from HG1.out.h (w.heap.size + 1, aggT y, 42) (.head _))
  clear b1 HG HZ HX0
  by_cases hz1 : z1 < 0
  · go_wp2
    go_ret
    exact ⟨rfl, HG1.out.b⟩
  have hz1d : decide (z1 < 0) = false := by simp; omega
  have HZ3 := Lib.hid (fun w => HZ2.out w (by omega))
  clear HZ2
  go_wp2_with (first | refine load_v rfl 42 (.tmp 4) rfl (w.heap.size + 1) (aggT y) rfl HY1.out Try.underlying42 rfl Try.infoLP ?_)
  refine (HZ3.out _).mono ?_
  rintro e w2 ⟨rfl, b2⟩
  have HG2 := Lib.hid (HG1.out.on b2)
  clear b2 HG1 HZ3 HY1
  by_cases hz2 : z2 < 0
  · go_wp2
    go_ret
    exact ⟨rfl, HG2.out.b⟩
  have hz2d : decide (z2 < 0) = false := by simp; omega
  go_upto_region 10 with (fail)
  clear hz1 hz2 hz1d hz2d hdp
  have HG0 := Lib.hid HG2.out.drew
  have HS0 := Lib.hid HG0.out.h
  clear HG2
  have FX := Lib.hid (show ∀ w', Held w' [(w.heap.size + 1, aggT y, 42), (w.heap.size, aggT x, 42)] → (Instr.loadAt 42 (.pointer (some ⟨w.heap.size, 0, none⟩))).run Try.prog w' = .ok (.agg (aggT x)) w' from fun w' hw => cells_load (hw _ (.tail _ (.head _))) Try.underlying42 rfl Try.infoLP)
  have FY := Lib.hid (show ∀ w', Held w' [(w.heap.size + 1, aggT y, 42), (w.heap.size, aggT x, 42)] → (Instr.loadAt 42 (.pointer (some ⟨w.heap.size + 1, 0, none⟩))).run Try.prog w' = .ok (.agg (aggT y)) w' from fun w' hw => cells_load (hw _ (.head _)) Try.underlying42 rfl Try.infoLP)
  refine Code.wp_mono (Q := fun e a' w' => e = .normal ∧ ∃ (u23 u24 u25 u26 u27 u28 : Value) (ga : Nat), a' = { tmps := #[(.agg (aggT x)), (.agg (aggT y)), (.string p), (.pointer (some ⟨w.heap.size, 0, none⟩)), (.pointer (some ⟨(w.heap.size + 1), 0, none⟩)), undef, (.bool false), (.int .i64 z2), (.pointer (some ⟨ga, 0, none⟩)), undef, (.string p), (.int .i64 sp), (.bool false), (.agg (aggT x)), (.int .i64 1048576), (.int .i64 z1), (.int .i64 z1), (.bool false), (.agg (aggT y)), (.int .i64 z1), (.int .i64 z2), (.int .i64 z2), (.bool false), u23, u24, u25, u26, u27, u28, undef, undef, undef, undef, undef, undef, undef, undef, undef, undef], defers := [] } ∧ Stand w w' ((ga, aggT r, 25) :: [(w.heap.size + 1, aggT y, 42), (w.heap.size, aggT x, 42)])) ?_ ?_
  rotate_left
  · refine m_begin (S := fun w' => Held w' [(w.heap.size + 1, aggT y, 42), (w.heap.size, aggT x, 42)]) (by kernel_rfl) 8 (by kernel_rfl) ?_
    change wpM _ _ _ _ _ _ _ _ w2.drew
    generalize w2.drew = w0 at *
    refine m_seq (f := 5) [⟨0, some 23, [3]⟩, ⟨1, some 24, [23]⟩, ⟨0, some 25, [4]⟩, ⟨6, some 26, [25]⟩, ⟨0, some 27, [2]⟩, ⟨26, some 28, [24, 26, 27]⟩, ⟨0, some 8, []⟩, ⟨127, none, [8, 28]⟩] [(true, 0), (true, 2), (true, 4)] 21 (by kernel_rfl) (by kernel_rfl) (fun _ _ _ _ _ h => by cases h.1) (by kernel_rfl) (by kernel_rfl) (by kernel_rfl) HS0.out ?_
    refine sq_held (some 23) (.agg (aggT x)) (by kernel_rfl) (by kernel_rfl) (held_load 42 (.tmp 3) (by kernel_rfl) _ _ (by kernel_rfl) FX.out) ?_
    refine sq_held (some 25) (.agg (aggT y)) (by kernel_rfl) (by kernel_rfl) (held_load 42 (.tmp 4) (by kernel_rfl) _ _ (by kernel_rfl) FY.out) ?_
    refine sq_pure (some 27) (.string p) (by kernel_rfl) (by kernel_rfl) (fun _ => (by kernel_rfl)) ?_
    refine sq_done ?_
    refine m_ways (f := 4) [⟨0, some 23, [3]⟩, ⟨1, some 24, [23]⟩, ⟨0, some 25, [4]⟩, ⟨6, some 26, [25]⟩, ⟨0, some 27, [2]⟩, ⟨26, some 28, [24, 26, 27]⟩, ⟨0, some 8, []⟩, ⟨127, none, [8, 28]⟩] [1, 6] (by kernel_rfl) (by kernel_rfl) (by kernel_rfl) (by kernel_rfl) ?_
    intro i hi
    rcases (by simpa using hi : i = 1 ∨ i = 6) with rfl | rfl
    · refine sq_fn (some 24) [.agg (aggT x)] Try.func32 (by kernel_rfl) (by kernel_rfl) (by kernel_rfl) (by kernel_rfl) (by kernel_rfl) (by kernel_rfl) ?_
      refine ((HTx.out _)).mono ?_
      rintro e w1 ⟨rfl, bw1⟩
      have HG1 := Lib.hid (HG0.out.on bw1)
      have HS1 := Lib.hid HG1.out.h
      refine ⟨_, rfl, HS1.out, ?_⟩
      refine sq_done ?_
      refine m_mask (M' := 23) (by kernel_rfl) ?_
      refine m_ways (f := 3) [⟨0, some 23, [3]⟩, ⟨1, some 24, [23]⟩, ⟨0, some 25, [4]⟩, ⟨6, some 26, [25]⟩, ⟨0, some 27, [2]⟩, ⟨26, some 28, [24, 26, 27]⟩, ⟨0, some 8, []⟩, ⟨127, none, [8, 28]⟩] [3, 6] (by kernel_rfl) (by kernel_rfl) (by kernel_rfl) (by kernel_rfl) ?_
      intro i hi
      rcases (by simpa using hi : i = 3 ∨ i = 6) with rfl | rfl
      · refine sq_fn (some 26) [.agg (aggT y)] Try.func32 (by kernel_rfl) (by kernel_rfl) (by kernel_rfl) (by kernel_rfl) (by kernel_rfl) (by kernel_rfl) ?_
        refine ((HTy.out _)).mono ?_
        rintro e w2 ⟨rfl, bw2⟩
        have HG2 := Lib.hid (HG1.out.on bw2)
        have HS2 := Lib.hid HG2.out.h
        refine ⟨_, rfl, HS2.out, ?_⟩
        refine sq_done ?_
        refine m_mask (M' := 31) (by kernel_rfl) ?_
        refine m_ways (f := 2) [⟨0, some 23, [3]⟩, ⟨1, some 24, [23]⟩, ⟨0, some 25, [4]⟩, ⟨6, some 26, [25]⟩, ⟨0, some 27, [2]⟩, ⟨26, some 28, [24, 26, 27]⟩, ⟨0, some 8, []⟩, ⟨127, none, [8, 28]⟩] [5, 6] (by kernel_rfl) (by kernel_rfl) (by kernel_rfl) (by kernel_rfl) ?_
        intro i hi
        rcases (by simpa using hi : i = 5 ∨ i = 6) with rfl | rfl
        · refine sq_fn (some 28) [.agg (aggT x), .agg (aggT y), .string p] Try.func36 (by kernel_rfl) (by kernel_rfl) (by kernel_rfl) (by kernel_rfl) (by kernel_rfl) (by kernel_rfl) ?_
          refine ((HS.out _)).mono ?_
          rintro e w3 ⟨rfl, bw3⟩
          have HG3 := Lib.hid (HG2.out.on bw3)
          have HS3 := Lib.hid HG3.out.h
          refine ⟨_, rfl, HS3.out, ?_⟩
          refine sq_done ?_
          refine m_mask (M' := 63) (by kernel_rfl) ?_
          refine m_seq (f := 0) [⟨0, some 23, [3]⟩, ⟨1, some 24, [23]⟩, ⟨0, some 25, [4]⟩, ⟨6, some 26, [25]⟩, ⟨0, some 27, [2]⟩, ⟨26, some 28, [24, 26, 27]⟩, ⟨0, some 8, []⟩, ⟨127, none, [8, 28]⟩] [(false, 6), (false, 7)] 255 (by kernel_rfl) (by kernel_rfl) (fun _ _ _ _ _ h => by cases h.1) (by kernel_rfl) (by kernel_rfl) (by kernel_rfl) HS3.out ?_
          have HG4 := Lib.hid (HG3.out.new #[.string ⟨#[]⟩, .string ⟨#[]⟩] 25)
          have HN := Lib.hid HG3.out.h.apart
          have HLe := Lib.hid HG3.out.b.size
          have HS4 := Lib.hid HG4.out.h.tail
          refine sq_alloc (some 8) 25 #[.string ⟨#[]⟩, .string ⟨#[]⟩] (by kernel_rfl) (by kernel_rfl) (by kernel_rfl) (by kernel_rfl) (zero_pair _) HS4.out ?_
          generalize w3.alloc (.cells #[.string ⟨#[]⟩, .string ⟨#[]⟩] 25) = w4 at *
          refine sq_store 25 (.tmp 8) (.tmp 28) w3.heap.size #[.string ⟨#[]⟩, .string ⟨#[]⟩] (aggT r) (by kernel_rfl) (by kernel_rfl) (by kernel_rfl) (by kernel_rfl) (by kernel_rfl) (by kernel_rfl) (HG4.out.h _ (.head _)) Try.infoP rfl (by simp [aggT, Value.oneCell']) (HS4.out.setRow HN.out) ?_
          refine sq_done ?_
          refine m_done [⟨0, some 23, [3]⟩, ⟨1, some 24, [23]⟩, ⟨0, some 25, [4]⟩, ⟨6, some 26, [25]⟩, ⟨0, some 27, [2]⟩, ⟨26, some 28, [24, 26, 27]⟩, ⟨0, some 8, []⟩, ⟨127, none, [8, 28]⟩] (by kernel_rfl) (by kernel_rfl) { tmps := #[(.agg (aggT x)), (.agg (aggT y)), (.string p), (.pointer (some ⟨w.heap.size, 0, none⟩)), (.pointer (some ⟨(w.heap.size + 1), 0, none⟩)), undef, (.bool false), (.int .i64 z2), (.pointer (some ⟨w3.heap.size, 0, none⟩)), undef, (.string p), (.int .i64 sp), (.bool false), (.agg (aggT x)), (.int .i64 1048576), (.int .i64 z1), (.int .i64 z1), (.bool false), (.agg (aggT y)), (.int .i64 z1), (.int .i64 z2), (.int .i64 z2), (.bool false), (.agg (aggT x)), (.agg (aggT x)), (.agg (aggT y)), (.agg (aggT y)), (.string p), (.agg (aggT r)), undef, undef, undef, undef, undef, undef, undef, undef, undef, undef], defers := [] } (by kernel_rfl) ?_
          exact ⟨rfl, _, _, _, _, _, _, w3.heap.size, rfl, HG4.out.putAt HLe.out HN.out (aggT r)⟩
        · have HG3 := Lib.hid (HG2.out.new #[.string ⟨#[]⟩, .string ⟨#[]⟩] 25)
          have HN := Lib.hid HG2.out.h.apart
          have HLe := Lib.hid HG2.out.b.size
          have HS3 := Lib.hid HG3.out.h.tail
          refine sq_alloc (some 8) 25 #[.string ⟨#[]⟩, .string ⟨#[]⟩] (by kernel_rfl) (by kernel_rfl) (by kernel_rfl) (by kernel_rfl) (zero_pair _) HS3.out ?_
          generalize w2.alloc (.cells #[.string ⟨#[]⟩, .string ⟨#[]⟩] 25) = w3 at *
          refine sq_done ?_
          refine m_mask (M' := 95) (by kernel_rfl) ?_
          refine m_seq (f := 0) [⟨0, some 23, [3]⟩, ⟨1, some 24, [23]⟩, ⟨0, some 25, [4]⟩, ⟨6, some 26, [25]⟩, ⟨0, some 27, [2]⟩, ⟨26, some 28, [24, 26, 27]⟩, ⟨0, some 8, []⟩, ⟨127, none, [8, 28]⟩] [(false, 5), (false, 7)] 255 (by kernel_rfl) (by kernel_rfl) (fun _ _ _ _ _ h => by cases h.1) (by kernel_rfl) (by kernel_rfl) (by kernel_rfl) HS3.out ?_
          refine sq_fn (some 28) [.agg (aggT x), .agg (aggT y), .string p] Try.func36 (by kernel_rfl) (by kernel_rfl) (by kernel_rfl) (by kernel_rfl) (by kernel_rfl) (by kernel_rfl) ?_
          refine ((HS.out _)).mono ?_
          rintro e w4 ⟨rfl, bw4⟩
          have HG4 := Lib.hid (HG3.out.on bw4)
          have HS4 := Lib.hid HG4.out.h.tail
          refine ⟨_, rfl, HS4.out, ?_⟩
          refine sq_store 25 (.tmp 8) (.tmp 28) w2.heap.size #[.string ⟨#[]⟩, .string ⟨#[]⟩] (aggT r) (by kernel_rfl) (by kernel_rfl) (by kernel_rfl) (by kernel_rfl) (by kernel_rfl) (by kernel_rfl) (HG4.out.h _ (.head _)) Try.infoP rfl (by simp [aggT, Value.oneCell']) (HS4.out.setRow HN.out) ?_
          refine sq_done ?_
          refine m_done [⟨0, some 23, [3]⟩, ⟨1, some 24, [23]⟩, ⟨0, some 25, [4]⟩, ⟨6, some 26, [25]⟩, ⟨0, some 27, [2]⟩, ⟨26, some 28, [24, 26, 27]⟩, ⟨0, some 8, []⟩, ⟨127, none, [8, 28]⟩] (by kernel_rfl) (by kernel_rfl) { tmps := #[(.agg (aggT x)), (.agg (aggT y)), (.string p), (.pointer (some ⟨w.heap.size, 0, none⟩)), (.pointer (some ⟨(w.heap.size + 1), 0, none⟩)), undef, (.bool false), (.int .i64 z2), (.pointer (some ⟨w2.heap.size, 0, none⟩)), undef, (.string p), (.int .i64 sp), (.bool false), (.agg (aggT x)), (.int .i64 1048576), (.int .i64 z1), (.int .i64 z1), (.bool false), (.agg (aggT y)), (.int .i64 z1), (.int .i64 z2), (.int .i64 z2), (.bool false), (.agg (aggT x)), (.agg (aggT x)), (.agg (aggT y)), (.agg (aggT y)), (.string p), (.agg (aggT r)), undef, undef, undef, undef, undef, undef, undef, undef, undef, undef], defers := [] } (by kernel_rfl) ?_
          exact ⟨rfl, _, _, _, _, _, _, w2.heap.size, rfl, HG4.out.putAt HLe.out HN.out (aggT r)⟩
      · have HG2 := Lib.hid (HG1.out.new #[.string ⟨#[]⟩, .string ⟨#[]⟩] 25)
        have HN := Lib.hid HG1.out.h.apart
        have HLe := Lib.hid HG1.out.b.size
        have HS2 := Lib.hid HG2.out.h.tail
        refine sq_alloc (some 8) 25 #[.string ⟨#[]⟩, .string ⟨#[]⟩] (by kernel_rfl) (by kernel_rfl) (by kernel_rfl) (by kernel_rfl) (zero_pair _) HS2.out ?_
        generalize w1.alloc (.cells #[.string ⟨#[]⟩, .string ⟨#[]⟩] 25) = w2 at *
        refine sq_done ?_
        refine m_mask (M' := 87) (by kernel_rfl) ?_
        refine m_seq (f := 0) [⟨0, some 23, [3]⟩, ⟨1, some 24, [23]⟩, ⟨0, some 25, [4]⟩, ⟨6, some 26, [25]⟩, ⟨0, some 27, [2]⟩, ⟨26, some 28, [24, 26, 27]⟩, ⟨0, some 8, []⟩, ⟨127, none, [8, 28]⟩] [(false, 3), (false, 5), (false, 7)] 255 (by kernel_rfl) (by kernel_rfl) (fun _ _ _ _ _ h => by cases h.1) (by kernel_rfl) (by kernel_rfl) (by kernel_rfl) HS2.out ?_
        refine sq_fn (some 26) [.agg (aggT y)] Try.func32 (by kernel_rfl) (by kernel_rfl) (by kernel_rfl) (by kernel_rfl) (by kernel_rfl) (by kernel_rfl) ?_
        refine ((HTy.out _)).mono ?_
        rintro e w3 ⟨rfl, bw3⟩
        have HG3 := Lib.hid (HG2.out.on bw3)
        have HS3 := Lib.hid HG3.out.h.tail
        refine ⟨_, rfl, HS3.out, ?_⟩
        refine sq_fn (some 28) [.agg (aggT x), .agg (aggT y), .string p] Try.func36 (by kernel_rfl) (by kernel_rfl) (by kernel_rfl) (by kernel_rfl) (by kernel_rfl) (by kernel_rfl) ?_
        refine ((HS.out _)).mono ?_
        rintro e w4 ⟨rfl, bw4⟩
        have HG4 := Lib.hid (HG3.out.on bw4)
        have HS4 := Lib.hid HG4.out.h.tail
        refine ⟨_, rfl, HS4.out, ?_⟩
        refine sq_store 25 (.tmp 8) (.tmp 28) w1.heap.size #[.string ⟨#[]⟩, .string ⟨#[]⟩] (aggT r) (by kernel_rfl) (by kernel_rfl) (by kernel_rfl) (by kernel_rfl) (by kernel_rfl) (by kernel_rfl) (HG4.out.h _ (.head _)) Try.infoP rfl (by simp [aggT, Value.oneCell']) (HS4.out.setRow HN.out) ?_
        refine sq_done ?_
        refine m_done [⟨0, some 23, [3]⟩, ⟨1, some 24, [23]⟩, ⟨0, some 25, [4]⟩, ⟨6, some 26, [25]⟩, ⟨0, some 27, [2]⟩, ⟨26, some 28, [24, 26, 27]⟩, ⟨0, some 8, []⟩, ⟨127, none, [8, 28]⟩] (by kernel_rfl) (by kernel_rfl) { tmps := #[(.agg (aggT x)), (.agg (aggT y)), (.string p), (.pointer (some ⟨w.heap.size, 0, none⟩)), (.pointer (some ⟨(w.heap.size + 1), 0, none⟩)), undef, (.bool false), (.int .i64 z2), (.pointer (some ⟨w1.heap.size, 0, none⟩)), undef, (.string p), (.int .i64 sp), (.bool false), (.agg (aggT x)), (.int .i64 1048576), (.int .i64 z1), (.int .i64 z1), (.bool false), (.agg (aggT y)), (.int .i64 z1), (.int .i64 z2), (.int .i64 z2), (.bool false), (.agg (aggT x)), (.agg (aggT x)), (.agg (aggT y)), (.agg (aggT y)), (.string p), (.agg (aggT r)), undef, undef, undef, undef, undef, undef, undef, undef, undef, undef], defers := [] } (by kernel_rfl) ?_
        exact ⟨rfl, _, _, _, _, _, _, w1.heap.size, rfl, HG4.out.putAt HLe.out HN.out (aggT r)⟩
    · have HG1 := Lib.hid (HG0.out.new #[.string ⟨#[]⟩, .string ⟨#[]⟩] 25)
      have HN := Lib.hid HG0.out.h.apart
      have HLe := Lib.hid HG0.out.b.size
      have HS1 := Lib.hid HG1.out.h.tail
      refine sq_alloc (some 8) 25 #[.string ⟨#[]⟩, .string ⟨#[]⟩] (by kernel_rfl) (by kernel_rfl) (by kernel_rfl) (by kernel_rfl) (zero_pair _) HS1.out ?_
      generalize w0.alloc (.cells #[.string ⟨#[]⟩, .string ⟨#[]⟩] 25) = w1 at *
      refine sq_done ?_
      refine m_mask (M' := 85) (by kernel_rfl) ?_
      refine m_seq (f := 0) [⟨0, some 23, [3]⟩, ⟨1, some 24, [23]⟩, ⟨0, some 25, [4]⟩, ⟨6, some 26, [25]⟩, ⟨0, some 27, [2]⟩, ⟨26, some 28, [24, 26, 27]⟩, ⟨0, some 8, []⟩, ⟨127, none, [8, 28]⟩] [(false, 1), (false, 3), (false, 5), (false, 7)] 255 (by kernel_rfl) (by kernel_rfl) (fun _ _ _ _ _ h => by cases h.1) (by kernel_rfl) (by kernel_rfl) (by kernel_rfl) HS1.out ?_
      refine sq_fn (some 24) [.agg (aggT x)] Try.func32 (by kernel_rfl) (by kernel_rfl) (by kernel_rfl) (by kernel_rfl) (by kernel_rfl) (by kernel_rfl) ?_
      refine ((HTx.out _)).mono ?_
      rintro e w2 ⟨rfl, bw2⟩
      have HG2 := Lib.hid (HG1.out.on bw2)
      have HS2 := Lib.hid HG2.out.h.tail
      refine ⟨_, rfl, HS2.out, ?_⟩
      refine sq_fn (some 26) [.agg (aggT y)] Try.func32 (by kernel_rfl) (by kernel_rfl) (by kernel_rfl) (by kernel_rfl) (by kernel_rfl) (by kernel_rfl) ?_
      refine ((HTy.out _)).mono ?_
      rintro e w3 ⟨rfl, bw3⟩
      have HG3 := Lib.hid (HG2.out.on bw3)
      have HS3 := Lib.hid HG3.out.h.tail
      refine ⟨_, rfl, HS3.out, ?_⟩
      refine sq_fn (some 28) [.agg (aggT x), .agg (aggT y), .string p] Try.func36 (by kernel_rfl) (by kernel_rfl) (by kernel_rfl) (by kernel_rfl) (by kernel_rfl) (by kernel_rfl) ?_
      refine ((HS.out _)).mono ?_
      rintro e w4 ⟨rfl, bw4⟩
      have HG4 := Lib.hid (HG3.out.on bw4)
      have HS4 := Lib.hid HG4.out.h.tail
      refine ⟨_, rfl, HS4.out, ?_⟩
      refine sq_store 25 (.tmp 8) (.tmp 28) w0.heap.size #[.string ⟨#[]⟩, .string ⟨#[]⟩] (aggT r) (by kernel_rfl) (by kernel_rfl) (by kernel_rfl) (by kernel_rfl) (by kernel_rfl) (by kernel_rfl) (HG4.out.h _ (.head _)) Try.infoP rfl (by simp [aggT, Value.oneCell']) (HS4.out.setRow HN.out) ?_
      refine sq_done ?_
      refine m_done [⟨0, some 23, [3]⟩, ⟨1, some 24, [23]⟩, ⟨0, some 25, [4]⟩, ⟨6, some 26, [25]⟩, ⟨0, some 27, [2]⟩, ⟨26, some 28, [24, 26, 27]⟩, ⟨0, some 8, []⟩, ⟨127, none, [8, 28]⟩] (by kernel_rfl) (by kernel_rfl) { tmps := #[(.agg (aggT x)), (.agg (aggT y)), (.string p), (.pointer (some ⟨w.heap.size, 0, none⟩)), (.pointer (some ⟨(w.heap.size + 1), 0, none⟩)), undef, (.bool false), (.int .i64 z2), (.pointer (some ⟨w0.heap.size, 0, none⟩)), undef, (.string p), (.int .i64 sp), (.bool false), (.agg (aggT x)), (.int .i64 1048576), (.int .i64 z1), (.int .i64 z1), (.bool false), (.agg (aggT y)), (.int .i64 z1), (.int .i64 z2), (.int .i64 z2), (.bool false), (.agg (aggT x)), (.agg (aggT x)), (.agg (aggT y)), (.agg (aggT y)), (.string p), (.agg (aggT r)), undef, undef, undef, undef, undef, undef, undef, undef, undef, undef], defers := [] } (by kernel_rfl) ?_
      exact ⟨rfl, _, _, _, _, _, _, w0.heap.size, rfl, HG4.out.putAt HLe.out HN.out (aggT r)⟩
  clear HG0 HS0 FX FY HS
  rintro e a w3 ⟨rfl, u23, u24, u25, u26, u27, u28, ga, rfl, hg3⟩
  have HG0 := Lib.hid hg3.drew
  have HS0 := Lib.hid HG0.out.h
  clear hg3
  have FX := Lib.hid (show ∀ w', Held w' ((ga, aggT r, 25) :: [(w.heap.size + 1, aggT y, 42), (w.heap.size, aggT x, 42)]) → (Instr.loadAt 42 (.pointer (some ⟨w.heap.size, 0, none⟩))).run Try.prog w' = .ok (.agg (aggT x)) w' from fun w' hw => cells_load (hw _ (.tail _ (.tail _ (.head _)))) Try.underlying42 rfl Try.infoLP)
  have FY := Lib.hid (show ∀ w', Held w' ((ga, aggT r, 25) :: [(w.heap.size + 1, aggT y, 42), (w.heap.size, aggT x, 42)]) → (Instr.loadAt 42 (.pointer (some ⟨w.heap.size + 1, 0, none⟩))).run Try.prog w' = .ok (.agg (aggT y)) w' from fun w' hw => cells_load (hw _ (.tail _ (.head _))) Try.underlying42 rfl Try.infoLP)
  refine (by assumption : ∀ (a : Act) (w_1 : World), Code.wp _ _ _ a w_1 → _) _ _ ?_
  go_step
  refine Code.wp_mono (Q := fun e a' w' => e = .normal ∧ ∃ (u23 u24 u25 u26 u27 u28 u29 u30 u31 u32 u33 u34 : Value) (gb : Nat), a' = { tmps := #[(.agg (aggT x)), (.agg (aggT y)), (.string p), (.pointer (some ⟨w.heap.size, 0, none⟩)), (.pointer (some ⟨(w.heap.size + 1), 0, none⟩)), undef, (.bool false), (.int .i64 z2), (.pointer (some ⟨ga, 0, none⟩)), (.pointer (some ⟨gb, 0, none⟩)), (.string p), (.int .i64 sp), (.bool false), (.agg (aggT x)), (.int .i64 1048576), (.int .i64 z1), (.int .i64 z1), (.bool false), (.agg (aggT y)), (.int .i64 z1), (.int .i64 z2), (.int .i64 z2), (.bool false), u23, u24, u25, u26, u27, u28, u29, u30, u31, u32, u33, u34, undef, undef, undef, undef], defers := [] } ∧ Stand w w' ((gb, aggT r, 25) :: (ga, aggT r, 25) :: [(w.heap.size + 1, aggT y, 42), (w.heap.size, aggT x, 42)])) ?_ ?_
  rotate_left
  · refine m_begin (S := fun w' => Held w' ((ga, aggT r, 25) :: [(w.heap.size + 1, aggT y, 42), (w.heap.size, aggT x, 42)])) (by kernel_rfl) 8 (by kernel_rfl) ?_
    change wpM _ _ _ _ _ _ _ _ w3.drew
    generalize w3.drew = w0 at *
    refine m_seq (f := 5) [⟨0, some 29, [3]⟩, ⟨1, some 30, [29]⟩, ⟨0, some 31, [4]⟩, ⟨6, some 32, [31]⟩, ⟨0, some 33, [2]⟩, ⟨26, some 34, [30, 32, 33]⟩, ⟨0, some 9, []⟩, ⟨127, none, [9, 34]⟩] [(true, 0), (true, 2), (true, 4)] 21 (by kernel_rfl) (by kernel_rfl) (fun _ _ _ _ _ h => by cases h.1) (by kernel_rfl) (by kernel_rfl) (by kernel_rfl) HS0.out ?_
    refine sq_held (some 29) (.agg (aggT x)) (by kernel_rfl) (by kernel_rfl) (held_load 42 (.tmp 3) (by kernel_rfl) _ _ (by kernel_rfl) FX.out) ?_
    refine sq_held (some 31) (.agg (aggT y)) (by kernel_rfl) (by kernel_rfl) (held_load 42 (.tmp 4) (by kernel_rfl) _ _ (by kernel_rfl) FY.out) ?_
    refine sq_pure (some 33) (.string p) (by kernel_rfl) (by kernel_rfl) (fun _ => (by kernel_rfl)) ?_
    refine sq_done ?_
    refine m_ways (f := 4) [⟨0, some 29, [3]⟩, ⟨1, some 30, [29]⟩, ⟨0, some 31, [4]⟩, ⟨6, some 32, [31]⟩, ⟨0, some 33, [2]⟩, ⟨26, some 34, [30, 32, 33]⟩, ⟨0, some 9, []⟩, ⟨127, none, [9, 34]⟩] [1, 6] (by kernel_rfl) (by kernel_rfl) (by kernel_rfl) (by kernel_rfl) ?_
    intro i hi
    rcases (by simpa using hi : i = 1 ∨ i = 6) with rfl | rfl
    · refine sq_fn (some 30) [.agg (aggT x)] Try.func32 (by kernel_rfl) (by kernel_rfl) (by kernel_rfl) (by kernel_rfl) (by kernel_rfl) (by kernel_rfl) ?_
      refine ((HTx.out _)).mono ?_
      rintro e w1 ⟨rfl, bw1⟩
      have HG1 := Lib.hid (HG0.out.on bw1)
      have HS1 := Lib.hid HG1.out.h
      refine ⟨_, rfl, HS1.out, ?_⟩
      refine sq_done ?_
      refine m_mask (M' := 23) (by kernel_rfl) ?_
      refine m_ways (f := 3) [⟨0, some 29, [3]⟩, ⟨1, some 30, [29]⟩, ⟨0, some 31, [4]⟩, ⟨6, some 32, [31]⟩, ⟨0, some 33, [2]⟩, ⟨26, some 34, [30, 32, 33]⟩, ⟨0, some 9, []⟩, ⟨127, none, [9, 34]⟩] [3, 6] (by kernel_rfl) (by kernel_rfl) (by kernel_rfl) (by kernel_rfl) ?_
      intro i hi
      rcases (by simpa using hi : i = 3 ∨ i = 6) with rfl | rfl
      · refine sq_fn (some 32) [.agg (aggT y)] Try.func32 (by kernel_rfl) (by kernel_rfl) (by kernel_rfl) (by kernel_rfl) (by kernel_rfl) (by kernel_rfl) ?_
        refine ((HTy.out _)).mono ?_
        rintro e w2 ⟨rfl, bw2⟩
        have HG2 := Lib.hid (HG1.out.on bw2)
        have HS2 := Lib.hid HG2.out.h
        refine ⟨_, rfl, HS2.out, ?_⟩
        refine sq_done ?_
        refine m_mask (M' := 31) (by kernel_rfl) ?_
        refine m_ways (f := 2) [⟨0, some 29, [3]⟩, ⟨1, some 30, [29]⟩, ⟨0, some 31, [4]⟩, ⟨6, some 32, [31]⟩, ⟨0, some 33, [2]⟩, ⟨26, some 34, [30, 32, 33]⟩, ⟨0, some 9, []⟩, ⟨127, none, [9, 34]⟩] [5, 6] (by kernel_rfl) (by kernel_rfl) (by kernel_rfl) (by kernel_rfl) ?_
        intro i hi
        rcases (by simpa using hi : i = 5 ∨ i = 6) with rfl | rfl
        · refine sq_fn (some 34) [.agg (aggT x), .agg (aggT y), .string p] Try.func18 (by kernel_rfl) (by kernel_rfl) (by kernel_rfl) (by kernel_rfl) (by kernel_rfl) (by kernel_rfl) ?_
          refine ((HI.out _)).mono ?_
          rintro e w3 ⟨rfl, bw3⟩
          have HG3 := Lib.hid (HG2.out.on bw3)
          have HS3 := Lib.hid HG3.out.h
          refine ⟨_, rfl, HS3.out, ?_⟩
          refine sq_done ?_
          refine m_mask (M' := 63) (by kernel_rfl) ?_
          refine m_seq (f := 0) [⟨0, some 29, [3]⟩, ⟨1, some 30, [29]⟩, ⟨0, some 31, [4]⟩, ⟨6, some 32, [31]⟩, ⟨0, some 33, [2]⟩, ⟨26, some 34, [30, 32, 33]⟩, ⟨0, some 9, []⟩, ⟨127, none, [9, 34]⟩] [(false, 6), (false, 7)] 255 (by kernel_rfl) (by kernel_rfl) (fun _ _ _ _ _ h => by cases h.1) (by kernel_rfl) (by kernel_rfl) (by kernel_rfl) HS3.out ?_
          have HG4 := Lib.hid (HG3.out.new #[.string ⟨#[]⟩, .string ⟨#[]⟩] 25)
          have HN := Lib.hid HG3.out.h.apart
          have HLe := Lib.hid HG3.out.b.size
          have HS4 := Lib.hid HG4.out.h.tail
          refine sq_alloc (some 9) 25 #[.string ⟨#[]⟩, .string ⟨#[]⟩] (by kernel_rfl) (by kernel_rfl) (by kernel_rfl) (by kernel_rfl) (zero_pair _) HS4.out ?_
          generalize w3.alloc (.cells #[.string ⟨#[]⟩, .string ⟨#[]⟩] 25) = w4 at *
          refine sq_store 25 (.tmp 9) (.tmp 34) w3.heap.size #[.string ⟨#[]⟩, .string ⟨#[]⟩] (aggT r) (by kernel_rfl) (by kernel_rfl) (by kernel_rfl) (by kernel_rfl) (by kernel_rfl) (by kernel_rfl) (HG4.out.h _ (.head _)) Try.infoP rfl (by simp [aggT, Value.oneCell']) (HS4.out.setRow HN.out) ?_
          refine sq_done ?_
          refine m_done [⟨0, some 29, [3]⟩, ⟨1, some 30, [29]⟩, ⟨0, some 31, [4]⟩, ⟨6, some 32, [31]⟩, ⟨0, some 33, [2]⟩, ⟨26, some 34, [30, 32, 33]⟩, ⟨0, some 9, []⟩, ⟨127, none, [9, 34]⟩] (by kernel_rfl) (by kernel_rfl) { tmps := #[(.agg (aggT x)), (.agg (aggT y)), (.string p), (.pointer (some ⟨w.heap.size, 0, none⟩)), (.pointer (some ⟨(w.heap.size + 1), 0, none⟩)), undef, (.bool false), (.int .i64 z2), (.pointer (some ⟨ga, 0, none⟩)), (.pointer (some ⟨w3.heap.size, 0, none⟩)), (.string p), (.int .i64 sp), (.bool false), (.agg (aggT x)), (.int .i64 1048576), (.int .i64 z1), (.int .i64 z1), (.bool false), (.agg (aggT y)), (.int .i64 z1), (.int .i64 z2), (.int .i64 z2), (.bool false), u23, u24, u25, u26, u27, u28, (.agg (aggT x)), (.agg (aggT x)), (.agg (aggT y)), (.agg (aggT y)), (.string p), (.agg (aggT r)), undef, undef, undef, undef], defers := [] } (by kernel_rfl) ?_
          exact ⟨rfl, _, _, _, _, _, _, _, _, _, _, _, _, w3.heap.size, rfl, HG4.out.putAt HLe.out HN.out (aggT r)⟩
        · have HG3 := Lib.hid (HG2.out.new #[.string ⟨#[]⟩, .string ⟨#[]⟩] 25)
          have HN := Lib.hid HG2.out.h.apart
          have HLe := Lib.hid HG2.out.b.size
          have HS3 := Lib.hid HG3.out.h.tail
          refine sq_alloc (some 9) 25 #[.string ⟨#[]⟩, .string ⟨#[]⟩] (by kernel_rfl) (by kernel_rfl) (by kernel_rfl) (by kernel_rfl) (zero_pair _) HS3.out ?_
          generalize w2.alloc (.cells #[.string ⟨#[]⟩, .string ⟨#[]⟩] 25) = w3 at *
          refine sq_done ?_
          refine m_mask (M' := 95) (by kernel_rfl) ?_
          refine m_seq (f := 0) [⟨0, some 29, [3]⟩, ⟨1, some 30, [29]⟩, ⟨0, some 31, [4]⟩, ⟨6, some 32, [31]⟩, ⟨0, some 33, [2]⟩, ⟨26, some 34, [30, 32, 33]⟩, ⟨0, some 9, []⟩, ⟨127, none, [9, 34]⟩] [(false, 5), (false, 7)] 255 (by kernel_rfl) (by kernel_rfl) (fun _ _ _ _ _ h => by cases h.1) (by kernel_rfl) (by kernel_rfl) (by kernel_rfl) HS3.out ?_
          refine sq_fn (some 34) [.agg (aggT x), .agg (aggT y), .string p] Try.func18 (by kernel_rfl) (by kernel_rfl) (by kernel_rfl) (by kernel_rfl) (by kernel_rfl) (by kernel_rfl) ?_
          refine ((HI.out _)).mono ?_
          rintro e w4 ⟨rfl, bw4⟩
          have HG4 := Lib.hid (HG3.out.on bw4)
          have HS4 := Lib.hid HG4.out.h.tail
          refine ⟨_, rfl, HS4.out, ?_⟩
          refine sq_store 25 (.tmp 9) (.tmp 34) w2.heap.size #[.string ⟨#[]⟩, .string ⟨#[]⟩] (aggT r) (by kernel_rfl) (by kernel_rfl) (by kernel_rfl) (by kernel_rfl) (by kernel_rfl) (by kernel_rfl) (HG4.out.h _ (.head _)) Try.infoP rfl (by simp [aggT, Value.oneCell']) (HS4.out.setRow HN.out) ?_
          refine sq_done ?_
          refine m_done [⟨0, some 29, [3]⟩, ⟨1, some 30, [29]⟩, ⟨0, some 31, [4]⟩, ⟨6, some 32, [31]⟩, ⟨0, some 33, [2]⟩, ⟨26, some 34, [30, 32, 33]⟩, ⟨0, some 9, []⟩, ⟨127, none, [9, 34]⟩] (by kernel_rfl) (by kernel_rfl) { tmps := #[(.agg (aggT x)), (.agg (aggT y)), (.string p), (.pointer (some ⟨w.heap.size, 0, none⟩)), (.pointer (some ⟨(w.heap.size + 1), 0, none⟩)), undef, (.bool false), (.int .i64 z2), (.pointer (some ⟨ga, 0, none⟩)), (.pointer (some ⟨w2.heap.size, 0, none⟩)), (.string p), (.int .i64 sp), (.bool false), (.agg (aggT x)), (.int .i64 1048576), (.int .i64 z1), (.int .i64 z1), (.bool false), (.agg (aggT y)), (.int .i64 z1), (.int .i64 z2), (.int .i64 z2), (.bool false), u23, u24, u25, u26, u27, u28, (.agg (aggT x)), (.agg (aggT x)), (.agg (aggT y)), (.agg (aggT y)), (.string p), (.agg (aggT r)), undef, undef, undef, undef], defers := [] } (by kernel_rfl) ?_
          exact ⟨rfl, _, _, _, _, _, _, _, _, _, _, _, _, w2.heap.size, rfl, HG4.out.putAt HLe.out HN.out (aggT r)⟩
      · have HG2 := Lib.hid (HG1.out.new #[.string ⟨#[]⟩, .string ⟨#[]⟩] 25)
        have HN := Lib.hid HG1.out.h.apart
        have HLe := Lib.hid HG1.out.b.size
        have HS2 := Lib.hid HG2.out.h.tail
        refine sq_alloc (some 9) 25 #[.string ⟨#[]⟩, .string ⟨#[]⟩] (by kernel_rfl) (by kernel_rfl) (by kernel_rfl) (by kernel_rfl) (zero_pair _) HS2.out ?_
        generalize w1.alloc (.cells #[.string ⟨#[]⟩, .string ⟨#[]⟩] 25) = w2 at *
        refine sq_done ?_
        refine m_mask (M' := 87) (by kernel_rfl) ?_
        refine m_seq (f := 0) [⟨0, some 29, [3]⟩, ⟨1, some 30, [29]⟩, ⟨0, some 31, [4]⟩, ⟨6, some 32, [31]⟩, ⟨0, some 33, [2]⟩, ⟨26, some 34, [30, 32, 33]⟩, ⟨0, some 9, []⟩, ⟨127, none, [9, 34]⟩] [(false, 3), (false, 5), (false, 7)] 255 (by kernel_rfl) (by kernel_rfl) (fun _ _ _ _ _ h => by cases h.1) (by kernel_rfl) (by kernel_rfl) (by kernel_rfl) HS2.out ?_
        refine sq_fn (some 32) [.agg (aggT y)] Try.func32 (by kernel_rfl) (by kernel_rfl) (by kernel_rfl) (by kernel_rfl) (by kernel_rfl) (by kernel_rfl) ?_
        refine ((HTy.out _)).mono ?_
        rintro e w3 ⟨rfl, bw3⟩
        have HG3 := Lib.hid (HG2.out.on bw3)
        have HS3 := Lib.hid HG3.out.h.tail
        refine ⟨_, rfl, HS3.out, ?_⟩
        refine sq_fn (some 34) [.agg (aggT x), .agg (aggT y), .string p] Try.func18 (by kernel_rfl) (by kernel_rfl) (by kernel_rfl) (by kernel_rfl) (by kernel_rfl) (by kernel_rfl) ?_
        refine ((HI.out _)).mono ?_
        rintro e w4 ⟨rfl, bw4⟩
        have HG4 := Lib.hid (HG3.out.on bw4)
        have HS4 := Lib.hid HG4.out.h.tail
        refine ⟨_, rfl, HS4.out, ?_⟩
        refine sq_store 25 (.tmp 9) (.tmp 34) w1.heap.size #[.string ⟨#[]⟩, .string ⟨#[]⟩] (aggT r) (by kernel_rfl) (by kernel_rfl) (by kernel_rfl) (by kernel_rfl) (by kernel_rfl) (by kernel_rfl) (HG4.out.h _ (.head _)) Try.infoP rfl (by simp [aggT, Value.oneCell']) (HS4.out.setRow HN.out) ?_
        refine sq_done ?_
        refine m_done [⟨0, some 29, [3]⟩, ⟨1, some 30, [29]⟩, ⟨0, some 31, [4]⟩, ⟨6, some 32, [31]⟩, ⟨0, some 33, [2]⟩, ⟨26, some 34, [30, 32, 33]⟩, ⟨0, some 9, []⟩, ⟨127, none, [9, 34]⟩] (by kernel_rfl) (by kernel_rfl) { tmps := #[(.agg (aggT x)), (.agg (aggT y)), (.string p), (.pointer (some ⟨w.heap.size, 0, none⟩)), (.pointer (some ⟨(w.heap.size + 1), 0, none⟩)), undef, (.bool false), (.int .i64 z2), (.pointer (some ⟨ga, 0, none⟩)), (.pointer (some ⟨w1.heap.size, 0, none⟩)), (.string p), (.int .i64 sp), (.bool false), (.agg (aggT x)), (.int .i64 1048576), (.int .i64 z1), (.int .i64 z1), (.bool false), (.agg (aggT y)), (.int .i64 z1), (.int .i64 z2), (.int .i64 z2), (.bool false), u23, u24, u25, u26, u27, u28, (.agg (aggT x)), (.agg (aggT x)), (.agg (aggT y)), (.agg (aggT y)), (.string p), (.agg (aggT r)), undef, undef, undef, undef], defers := [] } (by kernel_rfl) ?_
        exact ⟨rfl, _, _, _, _, _, _, _, _, _, _, _, _, w1.heap.size, rfl, HG4.out.putAt HLe.out HN.out (aggT r)⟩
    · have HG1 := Lib.hid (HG0.out.new #[.string ⟨#[]⟩, .string ⟨#[]⟩] 25)
      have HN := Lib.hid HG0.out.h.apart
      have HLe := Lib.hid HG0.out.b.size
      have HS1 := Lib.hid HG1.out.h.tail
      refine sq_alloc (some 9) 25 #[.string ⟨#[]⟩, .string ⟨#[]⟩] (by kernel_rfl) (by kernel_rfl) (by kernel_rfl) (by kernel_rfl) (zero_pair _) HS1.out ?_
      generalize w0.alloc (.cells #[.string ⟨#[]⟩, .string ⟨#[]⟩] 25) = w1 at *
      refine sq_done ?_
      refine m_mask (M' := 85) (by kernel_rfl) ?_
      refine m_seq (f := 0) [⟨0, some 29, [3]⟩, ⟨1, some 30, [29]⟩, ⟨0, some 31, [4]⟩, ⟨6, some 32, [31]⟩, ⟨0, some 33, [2]⟩, ⟨26, some 34, [30, 32, 33]⟩, ⟨0, some 9, []⟩, ⟨127, none, [9, 34]⟩] [(false, 1), (false, 3), (false, 5), (false, 7)] 255 (by kernel_rfl) (by kernel_rfl) (fun _ _ _ _ _ h => by cases h.1) (by kernel_rfl) (by kernel_rfl) (by kernel_rfl) HS1.out ?_
      refine sq_fn (some 30) [.agg (aggT x)] Try.func32 (by kernel_rfl) (by kernel_rfl) (by kernel_rfl) (by kernel_rfl) (by kernel_rfl) (by kernel_rfl) ?_
      refine ((HTx.out _)).mono ?_
      rintro e w2 ⟨rfl, bw2⟩
      have HG2 := Lib.hid (HG1.out.on bw2)
      have HS2 := Lib.hid HG2.out.h.tail
      refine ⟨_, rfl, HS2.out, ?_⟩
      refine sq_fn (some 32) [.agg (aggT y)] Try.func32 (by kernel_rfl) (by kernel_rfl) (by kernel_rfl) (by kernel_rfl) (by kernel_rfl) (by kernel_rfl) ?_
      refine ((HTy.out _)).mono ?_
      rintro e w3 ⟨rfl, bw3⟩
      have HG3 := Lib.hid (HG2.out.on bw3)
      have HS3 := Lib.hid HG3.out.h.tail
      refine ⟨_, rfl, HS3.out, ?_⟩
      refine sq_fn (some 34) [.agg (aggT x), .agg (aggT y), .string p] Try.func18 (by kernel_rfl) (by kernel_rfl) (by kernel_rfl) (by kernel_rfl) (by kernel_rfl) (by kernel_rfl) ?_
      refine ((HI.out _)).mono ?_
      rintro e w4 ⟨rfl, bw4⟩
      have HG4 := Lib.hid (HG3.out.on bw4)
      have HS4 := Lib.hid HG4.out.h.tail
      refine ⟨_, rfl, HS4.out, ?_⟩
      refine sq_store 25 (.tmp 9) (.tmp 34) w0.heap.size #[.string ⟨#[]⟩, .string ⟨#[]⟩] (aggT r) (by kernel_rfl) (by kernel_rfl) (by kernel_rfl) (by kernel_rfl) (by kernel_rfl) (by kernel_rfl) (HG4.out.h _ (.head _)) Try.infoP rfl (by simp [aggT, Value.oneCell']) (HS4.out.setRow HN.out) ?_
      refine sq_done ?_
      refine m_done [⟨0, some 29, [3]⟩, ⟨1, some 30, [29]⟩, ⟨0, some 31, [4]⟩, ⟨6, some 32, [31]⟩, ⟨0, some 33, [2]⟩, ⟨26, some 34, [30, 32, 33]⟩, ⟨0, some 9, []⟩, ⟨127, none, [9, 34]⟩] (by kernel_rfl) (by kernel_rfl) { tmps := #[(.agg (aggT x)), (.agg (aggT y)), (.string p), (.pointer (some ⟨w.heap.size, 0, none⟩)), (.pointer (some ⟨(w.heap.size + 1), 0, none⟩)), undef, (.bool false), (.int .i64 z2), (.pointer (some ⟨ga, 0, none⟩)), (.pointer (some ⟨w0.heap.size, 0, none⟩)), (.string p), (.int .i64 sp), (.bool false), (.agg (aggT x)), (.int .i64 1048576), (.int .i64 z1), (.int .i64 z1), (.bool false), (.agg (aggT y)), (.int .i64 z1), (.int .i64 z2), (.int .i64 z2), (.bool false), u23, u24, u25, u26, u27, u28, (.agg (aggT x)), (.agg (aggT x)), (.agg (aggT y)), (.agg (aggT y)), (.string p), (.agg (aggT r)), undef, undef, undef, undef], defers := [] } (by kernel_rfl) ?_
      exact ⟨rfl, _, _, _, _, _, _, _, _, _, _, _, _, w0.heap.size, rfl, HG4.out.putAt HLe.out HN.out (aggT r)⟩
  clear HG0 HS0 FX FY HI HTx HTy
  rintro e a w4 ⟨rfl, u23, u24, u25, u26, u27, u28, u29, u30, u31, u32, u33, u34, gb, rfl, hg4⟩
  have HG4 := Lib.hid hg4
  clear hg4
  have hA := HG4.out.h (ga, aggT r, 25) (.tail _ (.head _))
  have hB := HG4.out.h (gb, aggT r, 25) (.head _)
  refine (by assumption : ∀ (a : Act) (w_1 : World), Code.wp _ _ _ a w_1 → _) _ _ ?_
  go_wp2_with (first | refine load_p rfl (.tmp 9) rfl gb r rfl hB ?_ | refine load_p rfl (.tmp 8) rfl ga r rfl hA ?_)
  refine (eqPair_same r _).mono ?_
  rintro e w8 ⟨rfl, b8⟩
  have B8 := Lib.hid (bt HG4.out.b b8)
  clear b8 hA hB
  go_wp2
  go_ret
  exact ⟨rfl, B8.out⟩

theorem own : ownKnob Try.prog.godebug = none := by kernel_rfl
theorem laidOut : laidOutB Try.prog = true := by kernel_rfl
set_option maxRecDepth 100000 in
theorem lifted (os : Os) (started : os.Started) (H : Type) (enc : TypeId × Value → H) :
    ReturnsInHanded {} Try.checked os 8 .any (Rows.fnExactMulPairSpec.pre6 enc Try.prog Try.f8 Rows.fnExactMulPairRow.domain false) (Rows.fnExactMulPairSpec.post enc Try.prog Try.f8 false true false false) := by
  refine returnsInHanded_of_change (C := Try.checked) own started (by kernel_rfl) Try.func8
    (ChangeSpec.witness6 (enc := enc) (C := Try.checked) false ⟨#[], #[.agg #[.string ByteArray.empty, .string ByteArray.empty], .agg #[.string ByteArray.empty, .string ByteArray.empty], .string ByteArray.empty], []⟩ 8 (by kernel_rfl) (by kernel_rfl) (by kernel_rfl) (by kernel_rfl)) ?_
  intro W base args ds gs before hval0 hW hcnd _
  have hval : ∀ (j : Nat) t v, Try.f8.params[j]? = some t → args[j]? = some v → Value.okWide Try.prog W .any base t v := hval0
  have hW' := hW
  obtain ⟨p, q, hA0, hV, rfl, hfz, hnd⟩ := hW
  have hA : DataW.TrodAll enc Try.prog W 0 (fun _ => true) true Try.f8.params.toList args.toList ds p := hA0
  rw [Try.params8] at hA hval
  obtain ⟨v0, vs0, d0, ds0, p0, q0, hargs, rfl, rfl, h0, r0⟩ := trodAll_cons hA
  obtain ⟨v1, vs1, d1, ds1, p1, q1, rfl, rfl, rfl, h1, r1⟩ := trodAll_cons r0
  obtain ⟨v2, vs2, d2, ds2, p2, q2, rfl, rfl, rfl, h2, r2⟩ := trodAll_cons r1
  obtain ⟨rfl, rfl, rfl⟩ := trodAll_nil r2
  obtain rfl : args = #[v0, v1, v2] := by cases args; simp_all
  obtain ⟨rfl, rfl⟩ := trodVars_none hV
  obtain ⟨c0a, c0b, y0a, y0b, m0, rfl, rfl, rfl, hy0a, hy0b⟩ := Go.Joins.open_agg2 Try.underlying42 (by kernel_rfl) (show Try.prog.cellsOf 42 = 2 by kernel_rfl) (hval 0 42 v0 rfl rfl) h0
  obtain ⟨a0a, e0a, rfl, w0a⟩ := DataW.trod_string Try.underlying9 hy0a
  obtain ⟨a0b, e0b, rfl, w0b⟩ := DataW.trod_string Try.underlying9 hy0b
  simp only [List.cons.injEq, and_true] at e0a e0b
  subst e0a e0b
  obtain ⟨c1a, c1b, y1a, y1b, m1, rfl, rfl, rfl, hy1a, hy1b⟩ := Go.Joins.open_agg2 Try.underlying42 (by kernel_rfl) (show Try.prog.cellsOf 42 = 2 by kernel_rfl) (hval 1 42 v1 rfl rfl) h1
  obtain ⟨a1a, e1a, rfl, w1a⟩ := DataW.trod_string Try.underlying9 hy1a
  obtain ⟨a1b, e1b, rfl, w1b⟩ := DataW.trod_string Try.underlying9 hy1b
  simp only [List.cons.injEq, and_true] at e1a e1b
  subst e1a e1b
  obtain ⟨a2, rfl, rfl, rfl, w2⟩ := open_string Try.underlying9 (hval 2 9 v2 rfl rfl) h2
  clear hA0 hval0
  simp only [List.append_nil] at hW'
  refine (walk a0a a0b a1a a1b a2 W w0a w0b w1a w1b w2).mono fun e W' ⟨he, bel⟩ => ?_
  subst he
  exact ⟨_, rfl, _, _, _, [], [], [], hW', trodAll_mk1 (shut_bool Try.underlying4 _), (trodAll_cons_mk (Go.Joins.shut_agg2 (y0 := (.lit (.string a0a.data.toList), [])) (y1 := (.lit (.string a0b.data.toList), [])) Try.underlying42 (by kernel_rfl) (show Try.prog.cellsOf 42 = 2 by kernel_rfl) ⟨1, by simp [DataW.trod, Try.underlying9, w0a]⟩ ⟨1, by simp [DataW.trod, Try.underlying9, w0b]⟩) (trodAll_cons_mk (Go.Joins.shut_agg2 (y0 := (.lit (.string a1a.data.toList), [])) (y1 := (.lit (.string a1b.data.toList), [])) Try.underlying42 (by kernel_rfl) (show Try.prog.cellsOf 42 = 2 by kernel_rfl) ⟨1, by simp [DataW.trod, Try.underlying9, w1a]⟩ ⟨1, by simp [DataW.trod, Try.underlying9, w1b]⟩) (trodAll_cons_mk (shut_string Try.underlying9 w2) trodAll_mk0))), rfl, bel.frame _, fun h => by cases h⟩

theorem over : Rows.fnExactMulPairRow.holds Try.pinned (OpenSpec.ofChange Rows.fnExactMulPairSpec) :=
  OpenClaim.holds_of_wide 8 Try.f8 rfl rfl rfl rfl rfl rfl rfl ⟨rfl, rfl, rfl, rfl, rfl⟩ rfl rfl rfl rfl rfl (by kernel_rfl) Try.func8 (by kernel_rfl)
    (of_decide_eq_true (by kernel_rfl)) (by unfold Func.isWrapper; first | (rw [if_pos (by decide +kernel)]; kernel_rfl) | (rw [if_neg (by decide +kernel)]; exact ⟨rfl, rfl⟩))
    (fun os started H enc _ => lifted os started H enc)

theorem proved : Rows.FnExactMulPairSaid := over
end Go.Proofs.Ytflfeepgkcamnaa.fnExactMulPair

/-
  Proved: for any two points of texts laws.FnExactSamePoint returns true: impl.SamePoint answers as its model. Conditions: none.
-/
import Derived.Test.YtkmmlfocidfghaaRows
import Derived.WalkKit
import Derived.ProofKit
import Derived.OpenShut
import Derived.ShutString
import Derived.ChangeOld
import Derived.Below
import Derived.Lib.SmallJoins
import Derived.Test.YtkmmlfocidfghaaZPtX
import Derived.Test.YtkmmlfocidfghaaZPi
namespace Go.Proofs.Ytkmmlfocidfghaa.fnExactSamePoint
open Go.ChangeShapes Go.WideShapes Go.ChangeAt Go.RowKit
open Go.ChangeMaps (open_string shut_string)
set_option linter.unusedVariables false
set_option maxRecDepth 8000 in
set_option maxHeartbeats 4000000 in
theorem walk (a0z : Bool) (a0a a0b : ByteArray) (a1z : Bool) (a1a a1b : ByteArray) (w : World) (w0a : a0a.size ≤ maxLen) (w0b : a0b.size ≤ maxLen) (w1a : a1a.size ≤ maxLen) (w1b : a1b.size ≤ maxLen) :
    Calls Try.prog 7 #[.agg #[.bool a0z, .string a0a, .string a0b], .agg #[.bool a1z, .string a1a, .string a1b]] w fun e w' => e = .returned (.bool true) ∧ Below w.heap.size w w' := by
  unfold maxLen at w0a w0b w1a w1b
  obtain ⟨x, hx⟩ : ∃ x : Tp, (a0z, a0a, a0b) = x := ⟨_, rfl⟩
  have hvx : Value.agg #[.bool a0z, .string a0a, .string a0b] = .agg (tpT x) := by rw [← hx]; rfl
  have k1x : x.2.1.size ≤ 9223372036854775807 := by rw [← hx]; exact w0a
  have k2x : x.2.2.size ≤ 9223372036854775807 := by rw [← hx]; exact w0b
  rw [hvx]
  clear hvx hx w0a w0b
  obtain ⟨y, hy⟩ : ∃ x : Tp, (a1z, a1a, a1b) = x := ⟨_, rfl⟩
  have hvy : Value.agg #[.bool a1z, .string a1a, .string a1b] = .agg (tpT y) := by rw [← hy]; rfl
  have k1y : y.2.1.size ≤ 9223372036854775807 := by rw [← hy]; exact w1a
  have k2y : y.2.2.size ≤ 9223372036854775807 := by rw [← hy]; exact w1b
  rw [hvy]
  clear hvy hy w1a w1b
  have HG := Lib.hid (stand2 w (tpT x) (tpT y) 23 23)
  have HZx := Lib.hid (fun w => szPoint_any x 1048576 w (by omega) k1x k2x)
  have HTx := Lib.hid (toPoint_any x)
  have HTy := Lib.hid (toPoint_any y)
  have HSp := Lib.hid (samePoint_any x y)
  have HIm := Lib.hid (samePoint_i x y)
  obtain ⟨zx, hzx⟩ : ∃ z, szT x 1048576 = z := ⟨_, rfl⟩
  have lx : 0 ≤ szT x 1048576 → 0 ≤ szT x 1048576 ∧ szT x 1048576 ≤ 1048576 := szG_le (by omega)
  rw [hzx] at HZx lx
  have HZy := Lib.hid (fun w (h : 0 ≤ zx ∧ zx ≤ 1048576) => szPoint_any y zx w h k1y k2y)
  obtain ⟨zy, hzy⟩ : ∃ z, szT y zx = z := ⟨_, rfl⟩
  rw [hzy] at HZy
  generalize decide (x = y) = v0 at *
  have q0 : (v0 != v0) = false := by simp
  clear hzx k1x k2x hzy k1y k2y
  go_enter Try.func7, Try.ntmps7
  go_upto_region 1 with (fail)
  generalize (w.alloc _).alloc _ = w0 at *
  go_wp2_with (first | refine load_v rfl 23 (.tmp 2) rfl w.heap.size (tpT x) rfl (HG.out.h _ (.tail _ (.head _))) Try.underlying23 rfl Try.infoLPt ?_)
  refine (HZx.out _).mono ?_
  rintro e w1 ⟨rfl, b1⟩
  replace HG := Lib.hid (HG.out.on b1)
  clear b1 HZx
  by_cases hz : zx < 0
  · go_wp2
    go_ret
    exact ⟨rfl, HG.out.b⟩
  have HZy2 := Lib.hid (fun w => HZy.out w (lx (by omega)))
  clear HZy
  go_wp2_with (first | refine load_v rfl 23 (.tmp 3) rfl (w.heap.size + 1) (tpT y) rfl (HG.out.h _ (.head _)) Try.underlying23 rfl Try.infoLPt ?_)
  refine (HZy2.out _).mono ?_
  rintro e w2 ⟨rfl, b2⟩
  replace HG := Lib.hid (HG.out.on b2)
  clear b2 HZy2
  by_cases hz2 : zy < 0
  · go_wp2
    go_ret
    exact ⟨rfl, HG.out.b⟩
  clear lx
  go_upto_region 8 with (fail)
  have HS := Lib.hid HG.out.h
  replace HG := Lib.hid HG.out.drew
  replace HS := Lib.hid HG.out.h
  refine sq_go (S := fun w' => Held w' [(w.heap.size + 1, tpT y, 23), (w.heap.size, tpT x, 23)]) [(true, 0), (true, 2), (false, 1), (false, 3), (false, 4), (true, 5)] (by kernel_rfl) (fun d _ _ _ _ h => by cases d <;> exact h) HS.out ?_
  refine sq_ld (some 18) (ld_lp (.tail _ (.head _)) (by kernel_rfl)) (by kernel_rfl) ?_
  refine sq_ld (some 20) (ld_lp (.head _) (by kernel_rfl)) (by kernel_rfl) ?_
  refine sq_c (some 19) Try.func10 (HTx.out _) (by kernel_rfl) ?_
  rintro e v4 ⟨rfl, bw⟩
  replace HG := Lib.hid (HG.out.on bw)
  have HS := Lib.hid (HG.out.h)
  clear bw
  refine ⟨_, rfl, HS.out, ?_⟩
  refine sq_c (some 21) Try.func10 (HTy.out _) (by kernel_rfl) ?_
  rintro e v5 ⟨rfl, bw⟩
  replace HG := Lib.hid (HG.out.on bw)
  have HS := Lib.hid (HG.out.h)
  clear bw
  refine ⟨_, rfl, HS.out, ?_⟩
  refine sq_c (some 22) Try.func19 (HSp.out _) (by kernel_rfl) ?_
  rintro e v6 ⟨rfl, bw⟩
  replace HG := Lib.hid (HG.out.on bw)
  have HS := Lib.hid (HG.out.h)
  clear bw
  refine ⟨_, rfl, HS.out, ?_⟩
  refine sq_ps [(5, .bool v0)] (by kernel_rfl) ?_
  refine sq_fin { tmps := List.toArray ([.agg (tpT x), .agg (tpT y), .pointer (some ⟨w.heap.size, 0, none⟩), .pointer (some ⟨(w.heap.size + 1), 0, none⟩), .bool false, .int .i64 zy, .bool v0, undef, .agg (tpT x), .int .i64 1048576, .int .i64 zx, .int .i64 zx, .bool (decide (zx < 0)), .agg (tpT y), .int .i64 zx, .int .i64 zy, .int .i64 zy, .bool (decide (zy < 0)), .agg (tpT x), .agg (tpT x), .agg (tpT y), .agg (tpT y), .bool v0, undef, undef, undef, undef, undef, undef, undef, undef]), defers := [] } (by kernel_rfl) ?_
  refine (by assumption : ∀ (a : Act) (w_1 : World), Code.wp _ _ _ a w_1 → _) _ _ ?_
  go_upto_region 9 with (fail)
  replace HS := Lib.hid HG.out.h
  replace HG := Lib.hid HG.out.drew
  replace HS := Lib.hid HG.out.h
  refine sq_go (S := fun w' => Held w' [(w.heap.size + 1, tpT y, 23), (w.heap.size, tpT x, 23)]) [(true, 0), (true, 2), (false, 1), (false, 3), (false, 4), (true, 5)] (by kernel_rfl) (fun d _ _ _ _ h => by cases d <;> exact h) HS.out ?_
  refine sq_ld (some 23) (ld_lp (.tail _ (.head _)) (by kernel_rfl)) (by kernel_rfl) ?_
  refine sq_ld (some 25) (ld_lp (.head _) (by kernel_rfl)) (by kernel_rfl) ?_
  refine sq_c (some 24) Try.func10 (HTx.out _) (by kernel_rfl) ?_
  rintro e v7 ⟨rfl, bw⟩
  replace HG := Lib.hid (HG.out.on bw)
  have HS := Lib.hid (HG.out.h)
  clear bw
  refine ⟨_, rfl, HS.out, ?_⟩
  refine sq_c (some 26) Try.func10 (HTy.out _) (by kernel_rfl) ?_
  rintro e v8 ⟨rfl, bw⟩
  replace HG := Lib.hid (HG.out.on bw)
  have HS := Lib.hid (HG.out.h)
  clear bw
  refine ⟨_, rfl, HS.out, ?_⟩
  refine sq_c (some 27) Try.func20 (HIm.out _) (by kernel_rfl) ?_
  rintro e v9 ⟨rfl, bw⟩
  replace HG := Lib.hid (HG.out.on bw)
  have HS := Lib.hid (HG.out.h)
  clear bw
  refine ⟨_, rfl, HS.out, ?_⟩
  refine sq_ps [(5, .bool v0)] (by kernel_rfl) ?_
  refine sq_fin { tmps := List.toArray ([.agg (tpT x), .agg (tpT y), .pointer (some ⟨w.heap.size, 0, none⟩), .pointer (some ⟨(w.heap.size + 1), 0, none⟩), .bool false, .int .i64 zy, .bool v0, .bool v0, .agg (tpT x), .int .i64 1048576, .int .i64 zx, .int .i64 zx, .bool (decide (zx < 0)), .agg (tpT y), .int .i64 zx, .int .i64 zy, .int .i64 zy, .bool (decide (zy < 0)), .agg (tpT x), .agg (tpT x), .agg (tpT y), .agg (tpT y), .bool v0, .agg (tpT x), .agg (tpT x), .agg (tpT y), .agg (tpT y), .bool v0, undef, undef, undef]), defers := [] } (by kernel_rfl) ?_
  refine (by assumption : ∀ (a : Act) (w_1 : World), Code.wp _ _ _ a w_1 → _) _ _ ?_
  go_wp2
  go_ret
  exact ⟨rfl, HG.out.b⟩

theorem own : ownKnob Try.prog.godebug = none := by kernel_rfl
theorem laidOut : laidOutB Try.prog = true := by kernel_rfl
set_option maxRecDepth 100000 in
theorem lifted (os : Os) (started : os.Started) (H : Type) (enc : TypeId × Value → H) :
    ReturnsInHanded {} Try.checked os 7 .any (Rows.fnExactSamePointSpec.pre6 enc Try.prog Try.f7 Rows.fnExactSamePointRow.domain false) (Rows.fnExactSamePointSpec.post enc Try.prog Try.f7 false true false false) := by
  refine returnsInHanded_of_change (C := Try.checked) own started (by kernel_rfl) Try.func7
    (ChangeSpec.witness6 (enc := enc) (C := Try.checked) false ⟨#[], #[.agg #[.bool false, .string ByteArray.empty, .string ByteArray.empty], .agg #[.bool false, .string ByteArray.empty, .string ByteArray.empty]], []⟩ 8 (by kernel_rfl) (by kernel_rfl) (by kernel_rfl) (by kernel_rfl)) ?_
  intro W base args ds gs before hval0 hW hcnd _
  have hval : ∀ (j : Nat) t v, Try.f7.params[j]? = some t → args[j]? = some v → Value.okWide Try.prog W .any base t v := hval0
  have hW' := hW
  obtain ⟨p, q, hA0, hV, rfl, hfz, hnd⟩ := hW
  have hA : DataW.TrodAll enc Try.prog W 0 (fun _ => true) true Try.f7.params.toList args.toList ds p := hA0
  rw [Try.params7] at hA hval
  obtain ⟨v0, vs0, d0, ds0, p0, q0, hargs, rfl, rfl, h0, r0⟩ := trodAll_cons hA
  obtain ⟨v1, vs1, d1, ds1, p1, q1, rfl, rfl, rfl, h1, r1⟩ := trodAll_cons r0
  obtain ⟨rfl, rfl, rfl⟩ := trodAll_nil r1
  obtain rfl : args = #[v0, v1] := by cases args; simp_all
  obtain ⟨rfl, rfl⟩ := trodVars_none hV
  obtain ⟨c0z, c0a, c0b, y0z, y0a, y0b, m0, rfl, rfl, rfl, hy0z, hy0a, hy0b⟩ := Go.Joins.open_agg3 Try.underlying23 (by kernel_rfl) (show Try.prog.cellsOf 23 = 3 by kernel_rfl) (hval 0 23 v0 rfl rfl) h0
  obtain ⟨a0z, e0z, rfl⟩ := DataW.trod_bool Try.underlying4 hy0z
  obtain ⟨a0a, e0a, rfl, w0a⟩ := DataW.trod_string Try.underlying9 hy0a
  obtain ⟨a0b, e0b, rfl, w0b⟩ := DataW.trod_string Try.underlying9 hy0b
  simp only [List.cons.injEq, and_true] at e0z e0a e0b
  subst e0z e0a e0b
  obtain ⟨c1z, c1a, c1b, y1z, y1a, y1b, m1, rfl, rfl, rfl, hy1z, hy1a, hy1b⟩ := Go.Joins.open_agg3 Try.underlying23 (by kernel_rfl) (show Try.prog.cellsOf 23 = 3 by kernel_rfl) (hval 1 23 v1 rfl rfl) h1
  obtain ⟨a1z, e1z, rfl⟩ := DataW.trod_bool Try.underlying4 hy1z
  obtain ⟨a1a, e1a, rfl, w1a⟩ := DataW.trod_string Try.underlying9 hy1a
  obtain ⟨a1b, e1b, rfl, w1b⟩ := DataW.trod_string Try.underlying9 hy1b
  simp only [List.cons.injEq, and_true] at e1z e1a e1b
  subst e1z e1a e1b
  clear hA0 hval0
  simp only [List.append_nil] at hW'
  refine (walk a0z a0a a0b a1z a1a a1b W w0a w0b w1a w1b).mono fun e W' ⟨he, bel⟩ => ?_
  subst he
  exact ⟨_, rfl, _, _, _, [], [], [], hW', trodAll_mk1 (shut_bool Try.underlying4 _), (trodAll_cons_mk (Go.Joins.shut_agg3 (y0 := (.lit (.bool a0z), [])) (y1 := (.lit (.string a0a.data.toList), [])) (y2 := (.lit (.string a0b.data.toList), [])) Try.underlying23 (by kernel_rfl) (show Try.prog.cellsOf 23 = 3 by kernel_rfl) ⟨1, by simp [DataW.trod, Try.underlying4]⟩ ⟨1, by simp [DataW.trod, Try.underlying9, w0a]⟩ ⟨1, by simp [DataW.trod, Try.underlying9, w0b]⟩) (trodAll_cons_mk (Go.Joins.shut_agg3 (y0 := (.lit (.bool a1z), [])) (y1 := (.lit (.string a1a.data.toList), [])) (y2 := (.lit (.string a1b.data.toList), [])) Try.underlying23 (by kernel_rfl) (show Try.prog.cellsOf 23 = 3 by kernel_rfl) ⟨1, by simp [DataW.trod, Try.underlying4]⟩ ⟨1, by simp [DataW.trod, Try.underlying9, w1a]⟩ ⟨1, by simp [DataW.trod, Try.underlying9, w1b]⟩) trodAll_mk0)), rfl, bel.frame _, fun h => by cases h⟩

theorem over : Rows.fnExactSamePointRow.holds Try.pinned (OpenSpec.ofChange Rows.fnExactSamePointSpec) :=
  OpenClaim.holds_of_wide 7 Try.f7 rfl rfl rfl rfl rfl rfl rfl ⟨rfl, rfl, rfl, rfl, rfl⟩ rfl rfl rfl rfl rfl (by kernel_rfl) Try.func7 (by kernel_rfl)
    (of_decide_eq_true (by kernel_rfl)) (by unfold Func.isWrapper; first | (rw [if_pos (by decide +kernel)]; kernel_rfl) | (rw [if_neg (by decide +kernel)]; exact ⟨rfl, rfl⟩))
    (fun os started H enc _ => lifted os started H enc)

theorem proved : Rows.FnExactSamePointSaid := over
end Go.Proofs.Ytkmmlfocidfghaa.fnExactSamePoint

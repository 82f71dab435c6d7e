import Derived.Test.YtkmmlfocidfghaaGreatZPi
import Derived.Test.YtkmmlfocidfghaaGreatZLaw
import Derived.Test.YtkmmlfocidfghaaGreatJRoots
namespace Go.Proofs.YtkmmlfocidfghaaGreat
open Go.RowKit
/-- A root on a curve is not 0. -/
theorem root_some {id : Int} {x : ByteArray} (hx : restB x (cvPT id) = true) (hr : rootB (cubeG id x) (cvPT id) = true) : (rootG (cubeG id x) (cvPT id)).toList.isEmpty = false := by
  have hc : cvB id = true := by
    cases h : cvB id with
    | true => rfl
    | false => rw [cvPT_no h, rest_none] at hx; cases hx
  have R := root_laws hr
  have hy := root_rest hr
  have ho := on_root hc hx hy R.sq
  have ok : pointB id (false, x, rootG (cubeG id x) (cvPT id)) = true := by
    unfold pointB
    simp only
    rw [hc, hx, hy, ho]
    rfl
  have hn := (curve_sums hc).base.odd (point_fit ok).on
  cases h : (rootG (cubeG id x) (cvPT id)).toList.isEmpty with
  | false => rfl
  | true =>
    exfalso
    apply hn
    have e := nil_text h
    simp only [e]
    rfl
theorem lift_is {id : Int} {x : ByteArray} {gr : Bool} : liftB id x gr = (restB x (cvPT id) && rootB (cubeG id x) (cvPT id)) := by
  unfold liftB
  cases hx : restB x (cvPT id) with
  | false => rw [Bool.and_false, Bool.false_and, Bool.false_and]
  | true =>
    have hc : cvB id = true := by
      cases h : cvB id with
      | true => rfl
      | false => rw [cvPT_no h, rest_none] at hx; cases hx
    rw [hc]
    cases hr : rootB (cubeG id x) (cvPT id) with
    | false => rfl
    | true => rw [root_some hx hr, Bool.and_false]; rfl
set_option maxRecDepth 8000 in
set_option maxHeartbeats 4000000 in
theorem liftPoint_i (id : Int) (x : ByteArray) (gr : Bool) (w : World) : Calls Tryz.prog 18 #[.int .i64 id, .string x, .bool gr] w fun e w' => e = .returned (.tuple #[.agg (tpT (liftG id x gr)), .bool (liftB id x gr)]) ∧ Below w.heap.size w w' := by
  have HK := Lib.hid (curveOf_i id)
  have HC := Lib.hid (cv_in id)
  have HO := Lib.hid (restOk_i x (cvPT id))
  have HG := Lib.hid (begun1 (Held.none w) #[.bool false, .string ⟨#[]⟩, .string ⟨#[]⟩] 25)
  unfold liftG
  rw [lift_is]
  generalize cvB id = found at *
  cases hr : restB x (cvPT id) with
  | false =>
    rw [hr] at HO
    rw [Bool.false_and, if_neg Bool.false_ne_true]
    clear hr
    generalize cvC id = C at *
    generalize cvPT id = tp at *
    go_enter Tryz.func18, Tryz.ntmps18
    go_wp2_with fail
    generalize w.alloc _ = w0 at *
    refine (HK.out _).mono ?_
    rintro e w1 ⟨rfl, b1⟩
    have V := Lib.hid (cv_var' w1 HC.out.size)
    replace HG := Lib.hid (((HG.out.on b1).new cv0 43).putAt (HG.out.on b1).b.size (HG.out.on b1).h.apart C)
    clear b1 HK
    obtain ⟨_, c1, _⟩ := HC.out.cells _ _ V.out.at1
    go_wp2_with (first | refine cv_store rfl (.tmp 8) (.tmp 15) rfl w1.heap.size cv0 C rfl rfl V.out.at0 rfl HC.out.size HC.out.one ?_)
    clear c1 V
    generalize (w1.alloc _).setRow _ _ = wv at *
    generalize w1.heap.size = g at *
    refine (HO.out _).mono ?_
    rintro e w2 ⟨rfl, b2⟩
    replace HG := Lib.hid (HG.out.on b2)
    clear b2 HO
    have HE := Lib.hid (HG.out.put (Nat.le_refl _) (tpT noT))
    go_wp2_with (first | refine store_v rfl 25 (.tmp 6) (.tmp 22) rfl w.heap.size _ (tpT noT) rfl rfl HG.out.out Tryz.infoPoint rfl (by kernel_rfl) ?_)
    exact bodyPost_ret (res_pt HE.out.out rfl Tryz.results18 _ rfl) rfl ⟨rfl, HE.out.b⟩
  | true =>
  rw [hr] at HO
  rw [Bool.true_and]
  have HCb := Lib.hid (cubeAnd_i id x)
  have HRt := Lib.hid (rootOf_i (cubeG id x) (cvPT id))
  have HNg := Lib.hid (negRest_i (rootG (cubeG id x) (cvPT id)) (cvPT id))
  unfold RootPost at HRt
  clear hr
  generalize rootB (cubeG id x) (cvPT id) = rb at *
  generalize negR (rootG (cubeG id x) (cvPT id)) (cvPT id) = ng at *
  generalize rootG (cubeG id x) (cvPT id) = rt at *
  generalize cubeG id x = cb at *
  generalize cvC id = C at *
  generalize cvPT id = tp at *
  cases rb with
  | false =>
    rw [if_neg Bool.false_ne_true]
    go_enter Tryz.func18, Tryz.ntmps18
    go_wp2_with fail
    generalize w.alloc _ = w0 at *
    refine (HK.out _).mono ?_
    rintro e w1 ⟨rfl, b1⟩
    have V := Lib.hid (cv_var' w1 HC.out.size)
    replace HG := Lib.hid (((HG.out.on b1).new cv0 43).putAt (HG.out.on b1).b.size (HG.out.on b1).h.apart C)
    clear b1 HK
    obtain ⟨_, c1, _⟩ := HC.out.cells _ _ V.out.at1
    go_wp2_with (first | refine cv_store rfl (.tmp 8) (.tmp 15) rfl w1.heap.size cv0 C rfl rfl V.out.at0 rfl HC.out.size HC.out.one ?_)
    clear c1 V
    generalize (w1.alloc _).setRow _ _ = wv at *
    generalize w1.heap.size = g at *
    refine (HO.out _).mono ?_
    rintro e w2 ⟨rfl, b2⟩
    replace HG := Lib.hid (HG.out.on b2)
    clear b2 HO
    go_upto_region 4 with (fail)
    have HS := Lib.hid HG.out.h
    replace HG := Lib.hid HG.out.drew
    replace HS := Lib.hid HG.out.h
    refine sq_go (S := fun w' => Held w' [(g, C, 43)]) [(true, 0), (true, 1), (true, 3), (true, 4), (false, 2), (false, 5), (true, 6), (true, 7), (true, 8), (true, 9), (true, 10)] (by kernel_rfl) (fun d _ _ _ _ h => by cases d <;> exact h) HS.out ?_
    refine sq_ps [(0, .int .i64 id), (1, .string x), (3, .pointer (some ⟨g, 1, none⟩))] (by kernel_rfl) ?_
    refine sq_ld (some 28) (fun w' hw => (HC.out.strs (hw _ (.head _))).2.1) (by kernel_rfl) ?_
    refine sq_c (some 26) Tryz.func37 (HCb.out _) (by kernel_rfl) ?_
    rintro e v5 ⟨rfl, bw⟩
    replace HG := Lib.hid (HG.out.on bw)
    have HS := Lib.hid (HG.out.h)
    clear bw
    refine ⟨_, rfl, HS.out, ?_⟩
    refine sq_c (some 29) Tryz.func42 (HRt.out _) (by kernel_rfl) ?_
    rintro e v6 ⟨rfl, bw⟩
    replace HG := Lib.hid (HG.out.on bw)
    have HS := Lib.hid (HG.out.h)
    clear bw
    refine ⟨_, rfl, HS.out, ?_⟩
    refine sq_ps [(6, .tuple #[.string rt, .bool false]), (7, .string rt), (8, .bool false), (9, .string rt), (10, .bool false)] (by kernel_rfl) ?_
    refine sq_fin { tmps := List.toArray (List.append [.int .i64 id, .string x, .bool gr, undef, undef, undef, .pointer (some ⟨w.heap.size, 0, none⟩), .bool false, .pointer (some ⟨g, 0, none⟩), .bool found, .string rt, .bool false, .tuple #[.agg C, .bool found], .int .i64 id, .tuple #[.agg C, .bool found], .agg C, .bool found, .string x, .pointer (some ⟨g, 1, none⟩), .string tp, .bool true, .bool false, undef, .tuple #[.string rt, .bool false], .int .i64 id, .string x, .string cb, .pointer (some ⟨g, 1, none⟩), .string tp, .tuple #[.string rt, .bool false], .string rt, .bool false, undef, undef, undef, undef, undef, undef, undef, undef] ([undef, undef, undef])), defers := [] } (by kernel_rfl) ?_
    refine (by assumption : ∀ (a : Act) (w_1 : World), Code.wp _ _ _ a w_1 → _) _ _ ?_
    have HE := Lib.hid (HG.out.put (Nat.le_refl _) (tpT noT))
    go_wp2_with (first | refine store_v rfl 25 (.tmp 6) (.tmp 34) rfl w.heap.size _ (tpT noT) rfl rfl HG.out.out Tryz.infoPoint rfl (by kernel_rfl) ?_)
    exact bodyPost_ret (res_pt HE.out.out rfl Tryz.results18 _ rfl) rfl ⟨rfl, HE.out.b⟩
  | true =>
    rw [if_pos rfl]
    cases gr with
    | false =>
      rw [if_neg Bool.false_ne_true]
      go_enter Tryz.func18, Tryz.ntmps18
      go_wp2_with fail
      generalize w.alloc _ = w0 at *
      refine (HK.out _).mono ?_
      rintro e w1 ⟨rfl, b1⟩
      have V := Lib.hid (cv_var' w1 HC.out.size)
      replace HG := Lib.hid (((HG.out.on b1).new cv0 43).putAt (HG.out.on b1).b.size (HG.out.on b1).h.apart C)
      clear b1 HK
      obtain ⟨_, c1, _⟩ := HC.out.cells _ _ V.out.at1
      go_wp2_with (first | refine cv_store rfl (.tmp 8) (.tmp 15) rfl w1.heap.size cv0 C rfl rfl V.out.at0 rfl HC.out.size HC.out.one ?_)
      clear c1 V
      generalize (w1.alloc _).setRow _ _ = wv at *
      generalize w1.heap.size = g at *
      refine (HO.out _).mono ?_
      rintro e w2 ⟨rfl, b2⟩
      replace HG := Lib.hid (HG.out.on b2)
      clear b2 HO
      go_upto_region 4 with (fail)
      have HS := Lib.hid HG.out.h
      replace HG := Lib.hid HG.out.drew
      replace HS := Lib.hid HG.out.h
      refine sq_go (S := fun w' => Held w' [(g, C, 43)]) [(true, 0), (true, 1), (true, 3), (true, 4), (false, 2), (false, 5), (true, 6), (true, 7), (true, 8), (true, 9), (true, 10)] (by kernel_rfl) (fun d _ _ _ _ h => by cases d <;> exact h) HS.out ?_
      refine sq_ps [(0, .int .i64 id), (1, .string x), (3, .pointer (some ⟨g, 1, none⟩))] (by kernel_rfl) ?_
      refine sq_ld (some 28) (fun w' hw => (HC.out.strs (hw _ (.head _))).2.1) (by kernel_rfl) ?_
      refine sq_c (some 26) Tryz.func37 (HCb.out _) (by kernel_rfl) ?_
      rintro e v5 ⟨rfl, bw⟩
      replace HG := Lib.hid (HG.out.on bw)
      have HS := Lib.hid (HG.out.h)
      clear bw
      refine ⟨_, rfl, HS.out, ?_⟩
      refine sq_c (some 29) Tryz.func42 (HRt.out _) (by kernel_rfl) ?_
      rintro e v6 ⟨rfl, bw⟩
      replace HG := Lib.hid (HG.out.on bw)
      have HS := Lib.hid (HG.out.h)
      clear bw
      refine ⟨_, rfl, HS.out, ?_⟩
      refine sq_ps [(6, .tuple #[.string rt, .bool true]), (7, .string rt), (8, .bool true), (9, .string rt), (10, .bool true)] (by kernel_rfl) ?_
      refine sq_fin { tmps := List.toArray (List.append [.int .i64 id, .string x, .bool false, undef, undef, undef, .pointer (some ⟨w.heap.size, 0, none⟩), .bool false, .pointer (some ⟨g, 0, none⟩), .bool found, .string rt, .bool true, .tuple #[.agg C, .bool found], .int .i64 id, .tuple #[.agg C, .bool found], .agg C, .bool found, .string x, .pointer (some ⟨g, 1, none⟩), .string tp, .bool true, .bool false, undef, .tuple #[.string rt, .bool true], .int .i64 id, .string x, .string cb, .pointer (some ⟨g, 1, none⟩), .string tp, .tuple #[.string rt, .bool true], .string rt, .bool true, undef, undef, undef, undef, undef, undef, undef, undef] ([undef, undef, undef])), defers := [] } (by kernel_rfl) ?_
      refine (by assumption : ∀ (a : Act) (w_1 : World), Code.wp _ _ _ a w_1 → _) _ _ ?_
      have HE := Lib.hid (HG.out.put (Nat.le_refl _) (tpT (false, x, rt)))
      go_wp2_with (first | refine store_v rfl 25 (.tmp 6) (.tmp 42) rfl w.heap.size _ (tpT (false, x, rt)) rfl rfl HG.out.out Tryz.infoPoint rfl (by kernel_rfl) ?_)
      exact bodyPost_ret (res_pt HE.out.out rfl Tryz.results18 _ rfl) rfl ⟨rfl, HE.out.b⟩
    | true =>
      rw [if_pos rfl]
      go_enter Tryz.func18, Tryz.ntmps18
      go_wp2_with fail
      generalize w.alloc _ = w0 at *
      refine (HK.out _).mono ?_
      rintro e w1 ⟨rfl, b1⟩
      have V := Lib.hid (cv_var' w1 HC.out.size)
      replace HG := Lib.hid (((HG.out.on b1).new cv0 43).putAt (HG.out.on b1).b.size (HG.out.on b1).h.apart C)
      clear b1 HK
      obtain ⟨_, c1, _⟩ := HC.out.cells _ _ V.out.at1
      go_wp2_with (first | refine cv_store rfl (.tmp 8) (.tmp 15) rfl w1.heap.size cv0 C rfl rfl V.out.at0 rfl HC.out.size HC.out.one ?_)
      clear c1 V
      generalize (w1.alloc _).setRow _ _ = wv at *
      generalize w1.heap.size = g at *
      refine (HO.out _).mono ?_
      rintro e w2 ⟨rfl, b2⟩
      replace HG := Lib.hid (HG.out.on b2)
      clear b2 HO
      go_upto_region 4 with (fail)
      have HS := Lib.hid HG.out.h
      replace HG := Lib.hid HG.out.drew
      replace HS := Lib.hid HG.out.h
      refine sq_go (S := fun w' => Held w' [(g, C, 43)]) [(true, 0), (true, 1), (true, 3), (true, 4), (false, 2), (false, 5), (true, 6), (true, 7), (true, 8), (true, 9), (true, 10)] (by kernel_rfl) (fun d _ _ _ _ h => by cases d <;> exact h) HS.out ?_
      refine sq_ps [(0, .int .i64 id), (1, .string x), (3, .pointer (some ⟨g, 1, none⟩))] (by kernel_rfl) ?_
      refine sq_ld (some 28) (fun w' hw => (HC.out.strs (hw _ (.head _))).2.1) (by kernel_rfl) ?_
      refine sq_c (some 26) Tryz.func37 (HCb.out _) (by kernel_rfl) ?_
      rintro e v5 ⟨rfl, bw⟩
      replace HG := Lib.hid (HG.out.on bw)
      have HS := Lib.hid (HG.out.h)
      clear bw
      refine ⟨_, rfl, HS.out, ?_⟩
      refine sq_c (some 29) Tryz.func42 (HRt.out _) (by kernel_rfl) ?_
      rintro e v6 ⟨rfl, bw⟩
      replace HG := Lib.hid (HG.out.on bw)
      have HS := Lib.hid (HG.out.h)
      clear bw
      refine ⟨_, rfl, HS.out, ?_⟩
      refine sq_ps [(6, .tuple #[.string rt, .bool true]), (7, .string rt), (8, .bool true), (9, .string rt), (10, .bool true)] (by kernel_rfl) ?_
      refine sq_fin { tmps := List.toArray (List.append [.int .i64 id, .string x, .bool true, undef, undef, undef, .pointer (some ⟨w.heap.size, 0, none⟩), .bool false, .pointer (some ⟨g, 0, none⟩), .bool found, .string rt, .bool true, .tuple #[.agg C, .bool found], .int .i64 id, .tuple #[.agg C, .bool found], .agg C, .bool found, .string x, .pointer (some ⟨g, 1, none⟩), .string tp, .bool true, .bool false, undef, .tuple #[.string rt, .bool true], .int .i64 id, .string x, .string cb, .pointer (some ⟨g, 1, none⟩), .string tp, .tuple #[.string rt, .bool true], .string rt, .bool true, undef, undef, undef, undef, undef, undef, undef, undef] ([undef, undef, undef])), defers := [] } (by kernel_rfl) ?_
      refine (by assumption : ∀ (a : Act) (w_1 : World), Code.wp _ _ _ a w_1 → _) _ _ ?_
      obtain ⟨_, c1, _⟩ := HC.out.cells _ _ (show _ = some (Obj.cells C 43 (0, 0)) from HG.out.h (g, C, 43) (.head _))
      go_wp2_with fail
      refine (HNg.out _).mono ?_
      rintro e w5 ⟨rfl, b5⟩
      replace HG := Lib.hid (HG.out.on b5)
      have HE := Lib.hid (HG.out.put (Nat.le_refl _) (tpT (false, x, ng)))
      clear b5 c1
      go_wp2_with (first | refine store_v rfl 25 (.tmp 6) (.tmp 42) rfl w.heap.size _ (tpT (false, x, ng)) rfl rfl HG.out.out Tryz.infoPoint rfl (by kernel_rfl) ?_)
      exact bodyPost_ret (res_pt HE.out.out rfl Tryz.results18 _ rfl) rfl ⟨rfl, HE.out.b⟩
end Go.Proofs.YtkmmlfocidfghaaGreat

import Derived.Test.YtdajgcgliidjbaaZQb
import Derived.Test.YtdajgcgliidjbaaZQs
import Derived.Test.YtdajgcgliidjbaaZPoint
import Derived.Test.YtdajgcgliidjbaaQMath
import Derived.Deep.LoopGhost
import Derived.Test.YtdajgcgliidjbaaJTri
import Derived.Test.YtdajgcgliidjbaaYSpec
import Derived.Test.YtdajgcgliidjbaaJRests
import Derived.Test.YtdajgcgliidjbaaJPairC
import Derived.Test.YtdajgcgliidjbaaJPairF
import Derived.Test.YtdajgcgliidjbaaWkB
import Derived.Test.YtdajgcgliidjbaaYImpl
import Derived.Test.YtdajgcgliidjbaaZPLaw
namespace Go.Proofs.Ytdajgcgliidjbaa
open Go.RowKit
def okQ (id : Int) (q : Tq) : Bool := if q.1 then cvB id && decide (q = (true, noP, noP)) else pairB q.2.1 (cvPT id) && (pairB q.2.2 (cvPT id) && decide (mulPG q.2.2 q.2.2 (cvPT id) = cube2G id q.2.1))
theorem pair_nomod (x : Pt) : pairB x ⟨#[]⟩ = false := by
  cases h : pairB x ⟨#[]⟩ with
  | false => rfl
  | true =>
    have := (modB_parts (pairB_parts h).1).2
    have e : gV ⟨#[]⟩ = 0 := rfl
    omega
theorem okQ_eq (id : Int) (q : Tq) : okQ id q = pairPtB id q := by
  obtain ⟨z, x, y⟩ := q
  unfold okQ pairPtB
  cases z with
  | true =>
    simp only [if_true]
    congr 1
    cases h1 : noneP x with
    | false => exact decide_eq_false (fun e => by
        have e2 : x = noP := congrArg (fun q : Tq => q.2.1) e
        rw [none_p.2 e2] at h1
        cases h1)
    | true =>
      cases h2 : noneP y with
      | false => exact decide_eq_false (fun e => by
          have e2 : y = noP := congrArg (fun q : Tq => q.2.2) e
          rw [none_p.2 e2] at h2
          cases h2)
      | true => exact decide_eq_true (by rw [none_p.1 h1, none_p.1 h2])
  | false =>
    simp only [Bool.false_eq_true, if_false]
    cases hc : cvB id with
    | false => rw [cvPT_no hc, pair_nomod, Bool.false_and, Bool.false_and]
    | true =>
      rw [Bool.true_and]
      cases hx : pairB x (cvPT id) with
      | false => rfl
      | true =>
        cases hy : pairB y (cvPT id) with
        | false => rfl
        | true =>
          simp only [Bool.true_and]
          unfold onPB
          have hm := (pairB_parts hx).1
          have e1 : mulPG y y (cvPT id) = txtP (mulP (gV (cvPT id)) (valP y) (valP y)) := by
            obtain ⟨iy, ey⟩ := pair_num hy
            conv => lhs; rw [ey]
            exact mul_txt hm iy iy
          rw [e1, ← cube2_of hc hx]
          by_cases h : mulP (gV (cvPT id)) (valP y) (valP y) = rightP (gV (cvPT id)) (valP (cvKT id)) (valP x)
          · rw [decide_eq_true h, decide_eq_true (congrArg txtP h)]
          · rw [decide_eq_false h, decide_eq_false (fun e => h (txtP_inj e))]
set_option maxRecDepth 8000 in
set_option maxHeartbeats 4000000 in
theorem pairPointOk_i (id : Int) (q : Tq) (w : World) : Calls Try.prog 10 #[.int .i64 id, .agg (tqT q)] w fun e w' => e = .returned (.bool (pairPtB id q)) ∧ Below w.heap.size w w' := by
  rw [← okQ_eq]
  obtain ⟨z, x, y⟩ := q
  have HK := Lib.hid (curveOf_i id)
  unfold okQ
  cases z with
  | true =>
    rw [if_pos rfl]
    obtain ⟨b, hb⟩ : ∃ b, decide (((true, x, y) : Tq) = (true, noP, noP)) = b := ⟨_, rfl⟩
    have HD := Lib.hid hb
    rw [hb]
    clear hb
    cases hf : cvB id with
    | false =>
      rw [hf] at HK
      rw [Bool.false_and]
      clear hf
      simp only [cvE_eq] at HK
      generalize cvNT id = tn at *
      generalize cvPT id = tp at *
      generalize cvRT id = tr at *
      generalize cvBT id = tb at *
      generalize cvKT id = tk at *
      generalize cvSz id = sz at *
      generalize cvSc id = sc at *
      generalize cvBr id = br at *
      have HG := Lib.hid (blks1 w (tqT (true, x, y)) 30)
      go_enter Try.func10, Try.ntmps10
      go_upto_region 1 with (fail)
      generalize w.alloc _ = w0 at *
      have HS := Lib.hid HG.out.h
      replace HS : Hid (Held w0 [(w.heap.size, tqT (true, x, y), 30)]) := Lib.hid (HG.out.h.pick [0] _ rfl)
      refine wp_region_line (S := fun w' => Held w' [(w.heap.size, tqT (true, x, y), 30)]) [(true, 0), (false, 1), (true, 2), (true, 3), (true, 4), (false, 5), (false, 6), (true, 7)] (by kernel_rfl) (by kernel_rfl) HS.out ?_
      refine sq_ps [(0, .int .i64 id)] (by kernel_rfl) ?_
      refine sq_c (some 9) Try.func26 (HK.out _) (by kernel_rfl) ?_
      rintro e v1 ⟨rfl, bw⟩
      replace HG := Lib.hid (HG.out.on bw)
      clear bw
      refine ⟨_, rfl, (HG.out.h.pick [0] _ rfl), ?_⟩
      refine sq_ps [(2, .tuple #[.agg (cvE (tn, tp, tr, tb, tk, sz, sc, br)), .bool false]), (3, .agg (cvE (tn, tp, tr, tb, tk, sz, sc, br))), (4, .bool false)] (by kernel_rfl) ?_
      replace HG := Lib.hid (HG.out.new (cvE (⟨#[]⟩, ⟨#[]⟩, ⟨#[]⟩, ⟨#[]⟩, noP, 0, 0, false)) 40)
      refine sq_alloc (some 5) 40 (cvE (⟨#[]⟩, ⟨#[]⟩, ⟨#[]⟩, ⟨#[]⟩, noP, 0, 0, false)) (by kernel_rfl) (by kernel_rfl) (by kernel_rfl) (by kernel_rfl) (zero_cv _) (HG.out.h.pick [1] _ rfl) ?_
      generalize v1.alloc _ = u2 at *
      generalize v1.heap.size = g2 at *
      have HN := Lib.hid (HG.out.at 0 rfl)
      replace HG : Hid (Blks w (u2.setRow g2 (cvE (tn, tp, tr, tb, tk, sz, sc, br))) [(g2, cvE (tn, tp, tr, tb, tk, sz, sc, br), 40), (w.heap.size, tqT (true, x, y), 30)]) := Lib.hid (HG.out.put 0 rfl (cvE (tn, tp, tr, tb, tk, sz, sc, br)))
      refine sq_st 40 g2 (cvE (tn, tp, tr, tb, tk, sz, sc, br)) HN.out Try.infoCv rfl (by kernel_rfl) (HG.out.h.pick [1] _ rfl) (by kernel_rfl) ?_
      clear HN
      generalize World.setRow _ g2 _ = t3 at *
      refine sq_ps [(7, .bool false)] (by kernel_rfl) ?_
      refine sq_fin { tmps := List.toArray (List.append [.int .i64 id, .agg (tqT (true, x, y)), undef, .pointer (some ⟨w.heap.size, 0, none⟩), .bool false, .pointer (some ⟨g2, 0, none⟩), .bool false, .tuple #[.agg (cvE (tn, tp, tr, tb, tk, sz, sc, br)), .bool false], .int .i64 id, .tuple #[.agg (cvE (tn, tp, tr, tb, tk, sz, sc, br)), .bool false], .agg (cvE (tn, tp, tr, tb, tk, sz, sc, br)), .bool false, undef, undef, undef, undef, undef, undef, undef, undef, undef, undef, undef, undef, undef, undef, undef, undef, undef, undef, undef, undef, undef, undef, undef, undef, undef, undef, undef, undef] ([undef, undef, undef, undef, undef, undef])), defers := [] } (by kernel_rfl) ?_
      refine (by assumption : ∀ (a : Act) (w_1 : World), Code.wp _ _ _ a w_1 → _) _ _ ?_
      go_upto_region 2 with (fail)
      replace HS : Hid (Held t3 [(g2, cvE (tn, tp, tr, tb, tk, sz, sc, br), 40), (w.heap.size, tqT (true, x, y), 30)]) := Lib.hid (HG.out.h.pick [0, 1] _ rfl)
      refine wp_region_line (S := fun w' => Held w' [(g2, cvE (tn, tp, tr, tb, tk, sz, sc, br), 40), (w.heap.size, tqT (true, x, y), 30)]) [(true, 0), (true, 1)] (by kernel_rfl) (by kernel_rfl) HS.out ?_
      refine sq_ps [(0, .pointer (some ⟨w.heap.size, 0, none⟩))] (by kernel_rfl) ?_
      refine sq_ld (some 13) (wk_b (.tail _ (.head _)) (k := 0) rfl) (by kernel_rfl) ?_
      refine sq_fin { tmps := List.toArray (List.append [.int .i64 id, .agg (tqT (true, x, y)), undef, .pointer (some ⟨w.heap.size, 0, none⟩), .bool false, .pointer (some ⟨g2, 0, none⟩), .bool false, .tuple #[.agg (cvE (tn, tp, tr, tb, tk, sz, sc, br)), .bool false], .int .i64 id, .tuple #[.agg (cvE (tn, tp, tr, tb, tk, sz, sc, br)), .bool false], .agg (cvE (tn, tp, tr, tb, tk, sz, sc, br)), .bool false, .pointer (some ⟨w.heap.size, 0, none⟩), .bool true, undef, undef, undef, undef, undef, undef, undef, undef, undef, undef, undef, undef, undef, undef, undef, undef, undef, undef, undef, undef, undef, undef, undef, undef, undef, undef] ([undef, undef, undef, undef, undef, undef])), defers := [] } (by kernel_rfl) ?_
      refine (by assumption : ∀ (a : Act) (w_1 : World), Code.wp _ _ _ a w_1 → _) _ _ ?_
      go_upto_region 3 with (fail)
      replace HS : Hid (Held t3 [(g2, cvE (tn, tp, tr, tb, tk, sz, sc, br), 40), (w.heap.size, tqT (true, x, y), 30)]) := Lib.hid (HG.out.h.pick [0, 1] _ rfl)
      refine wp_region_line (S := fun w' => Held w' [(g2, cvE (tn, tp, tr, tb, tk, sz, sc, br), 40), (w.heap.size, tqT (true, x, y), 30)]) [(true, 0), (true, 1), (true, 2), (true, 3), (true, 4), (true, 5), (true, 6)] (by kernel_rfl) (by kernel_rfl) HS.out ?_
      refine SQ.out ?_
      refine g_ps [(0, .bool false), (1, .bool false)] (by kernel_rfl) ?_
      refine g_no [2, 3, 4] (by kernel_rfl) ?_
      refine g_ps [(5, .bool false), (6, .bool false)] (by kernel_rfl) ?_
      refine g_done ?_
      refine (by assumption : ∀ (a : Act) (w_1 : World), Code.wp _ Code.ret _ a w_1 → _) _ _ ?_
      refine wp_ret ?_
      try refine wk_block ?_
      try refine wk_then ?_
      exact wk_ret (v := .bool false) Try.results10 (by kernel_rfl) (by kernel_rfl) ⟨rfl, HG.out.b⟩
    | true =>
      rw [hf] at HK
      rw [Bool.true_and]
      clear hf
      simp only [cvE_eq] at HK
      generalize cvNT id = tn at *
      generalize cvPT id = tp at *
      generalize cvRT id = tr at *
      generalize cvBT id = tb at *
      generalize cvKT id = tk at *
      generalize cvSz id = sz at *
      generalize cvSc id = sc at *
      generalize cvBr id = br at *
      have HG := Lib.hid (blks1 w (tqT (true, x, y)) 30)
      go_enter Try.func10, Try.ntmps10
      go_upto_region 1 with (fail)
      generalize w.alloc _ = w0 at *
      have HS := Lib.hid HG.out.h
      replace HS : Hid (Held w0 [(w.heap.size, tqT (true, x, y), 30)]) := Lib.hid (HG.out.h.pick [0] _ rfl)
      refine wp_region_line (S := fun w' => Held w' [(w.heap.size, tqT (true, x, y), 30)]) [(true, 0), (false, 1), (true, 2), (true, 3), (true, 4), (false, 5), (false, 6), (true, 7)] (by kernel_rfl) (by kernel_rfl) HS.out ?_
      refine sq_ps [(0, .int .i64 id)] (by kernel_rfl) ?_
      refine sq_c (some 9) Try.func26 (HK.out _) (by kernel_rfl) ?_
      rintro e v1 ⟨rfl, bw⟩
      replace HG := Lib.hid (HG.out.on bw)
      clear bw
      refine ⟨_, rfl, (HG.out.h.pick [0] _ rfl), ?_⟩
      refine sq_ps [(2, .tuple #[.agg (cvE (tn, tp, tr, tb, tk, sz, sc, br)), .bool true]), (3, .agg (cvE (tn, tp, tr, tb, tk, sz, sc, br))), (4, .bool true)] (by kernel_rfl) ?_
      replace HG := Lib.hid (HG.out.new (cvE (⟨#[]⟩, ⟨#[]⟩, ⟨#[]⟩, ⟨#[]⟩, noP, 0, 0, false)) 40)
      refine sq_alloc (some 5) 40 (cvE (⟨#[]⟩, ⟨#[]⟩, ⟨#[]⟩, ⟨#[]⟩, noP, 0, 0, false)) (by kernel_rfl) (by kernel_rfl) (by kernel_rfl) (by kernel_rfl) (zero_cv _) (HG.out.h.pick [1] _ rfl) ?_
      generalize v1.alloc _ = u2 at *
      generalize v1.heap.size = g2 at *
      have HN := Lib.hid (HG.out.at 0 rfl)
      replace HG : Hid (Blks w (u2.setRow g2 (cvE (tn, tp, tr, tb, tk, sz, sc, br))) [(g2, cvE (tn, tp, tr, tb, tk, sz, sc, br), 40), (w.heap.size, tqT (true, x, y), 30)]) := Lib.hid (HG.out.put 0 rfl (cvE (tn, tp, tr, tb, tk, sz, sc, br)))
      refine sq_st 40 g2 (cvE (tn, tp, tr, tb, tk, sz, sc, br)) HN.out Try.infoCv rfl (by kernel_rfl) (HG.out.h.pick [1] _ rfl) (by kernel_rfl) ?_
      clear HN
      generalize World.setRow _ g2 _ = t3 at *
      refine sq_ps [(7, .bool true)] (by kernel_rfl) ?_
      refine sq_fin { tmps := List.toArray (List.append [.int .i64 id, .agg (tqT (true, x, y)), undef, .pointer (some ⟨w.heap.size, 0, none⟩), .bool false, .pointer (some ⟨g2, 0, none⟩), .bool true, .tuple #[.agg (cvE (tn, tp, tr, tb, tk, sz, sc, br)), .bool true], .int .i64 id, .tuple #[.agg (cvE (tn, tp, tr, tb, tk, sz, sc, br)), .bool true], .agg (cvE (tn, tp, tr, tb, tk, sz, sc, br)), .bool true, undef, undef, undef, undef, undef, undef, undef, undef, undef, undef, undef, undef, undef, undef, undef, undef, undef, undef, undef, undef, undef, undef, undef, undef, undef, undef, undef, undef] ([undef, undef, undef, undef, undef, undef])), defers := [] } (by kernel_rfl) ?_
      refine (by assumption : ∀ (a : Act) (w_1 : World), Code.wp _ _ _ a w_1 → _) _ _ ?_
      go_upto_region 2 with (fail)
      replace HS : Hid (Held t3 [(g2, cvE (tn, tp, tr, tb, tk, sz, sc, br), 40), (w.heap.size, tqT (true, x, y), 30)]) := Lib.hid (HG.out.h.pick [0, 1] _ rfl)
      refine wp_region_line (S := fun w' => Held w' [(g2, cvE (tn, tp, tr, tb, tk, sz, sc, br), 40), (w.heap.size, tqT (true, x, y), 30)]) [(true, 0), (true, 1)] (by kernel_rfl) (by kernel_rfl) HS.out ?_
      refine sq_ps [(0, .pointer (some ⟨w.heap.size, 0, none⟩))] (by kernel_rfl) ?_
      refine sq_ld (some 13) (wk_b (.tail _ (.head _)) (k := 0) rfl) (by kernel_rfl) ?_
      refine sq_fin { tmps := List.toArray (List.append [.int .i64 id, .agg (tqT (true, x, y)), undef, .pointer (some ⟨w.heap.size, 0, none⟩), .bool false, .pointer (some ⟨g2, 0, none⟩), .bool true, .tuple #[.agg (cvE (tn, tp, tr, tb, tk, sz, sc, br)), .bool true], .int .i64 id, .tuple #[.agg (cvE (tn, tp, tr, tb, tk, sz, sc, br)), .bool true], .agg (cvE (tn, tp, tr, tb, tk, sz, sc, br)), .bool true, .pointer (some ⟨w.heap.size, 0, none⟩), .bool true, undef, undef, undef, undef, undef, undef, undef, undef, undef, undef, undef, undef, undef, undef, undef, undef, undef, undef, undef, undef, undef, undef, undef, undef, undef, undef] ([undef, undef, undef, undef, undef, undef])), defers := [] } (by kernel_rfl) ?_
      refine (by assumption : ∀ (a : Act) (w_1 : World), Code.wp _ _ _ a w_1 → _) _ _ ?_
      go_upto_region 3 with (fail)
      replace HS : Hid (Held t3 [(g2, cvE (tn, tp, tr, tb, tk, sz, sc, br), 40), (w.heap.size, tqT (true, x, y), 30)]) := Lib.hid (HG.out.h.pick [0, 1] _ rfl)
      refine wp_region_line (S := fun w' => Held w' [(g2, cvE (tn, tp, tr, tb, tk, sz, sc, br), 40), (w.heap.size, tqT (true, x, y), 30)]) [(true, 0), (true, 1), (true, 2), (true, 3), (true, 4), (true, 5), (true, 6)] (by kernel_rfl) (by kernel_rfl) HS.out ?_
      refine SQ.out ?_
      refine g_ps [(0, .bool true), (1, .bool true)] (by kernel_rfl) ?_
      refine g_ld (some 16) (ld_mid' (D := tqT (true, x, y)) (k := 0) Try.underlying30 rfl Try.infoPq (.tail _ (.head _)) rfl) (by kernel_rfl) ?_
      refine g_pure (some 17) (.agg (tqT (true, noP, noP))) (by kernel_rfl) (wanted_by (g := 1) (b := true) (d := 15) (by kernel_rfl) (by kernel_rfl) (by kernel_rfl) (by kernel_rfl)) (held_build 30 #[(0, (.const (.bool true)))] (by kernel_rfl) _ (by kernel_rfl) _ (built_pq_z _)) ?_
      refine g_take (some 18) (.bool b) (by kernel_rfl) (yields_eqPq (wanted_by (g := 1) (b := true) (d := 15) (by kernel_rfl) (by kernel_rfl) (by kernel_rfl) (by kernel_rfl)) (.tmp 16) (.tmp 17) (by kernel_rfl) (true, x, y) (true, noP, noP) b HD.out (by kernel_rfl) (by kernel_rfl)) ?_
      refine g_ps [(5, .bool b), (6, .bool b)] (by kernel_rfl) ?_
      refine g_done ?_
      refine (by assumption : ∀ (a : Act) (w_1 : World), Code.wp _ Code.ret _ a w_1 → _) _ _ ?_
      refine wp_ret ?_
      try refine wk_block ?_
      try refine wk_then ?_
      exact wk_ret (v := .bool b) Try.results10 (by kernel_rfl) (by kernel_rfl) ⟨rfl, HG.out.b⟩
  | false =>
    rw [if_neg Bool.false_ne_true]
    have RX := Lib.hid (pairOk_i x (cvPT id))
    have RY := Lib.hid (pairOk_i y (cvPT id))
    have HM := Lib.hid (mulPair_i y y (cvPT id))
    have HU := Lib.hid (cubeAndPair_i id x)
    obtain ⟨bo, hb⟩ : ∃ b, decide (mulPG y y (cvPT id) = cube2G id x) = b := ⟨_, rfl⟩
    have HD := Lib.hid hb
    simp only [hb]
    clear hb
    generalize mulPG y y (cvPT id) = m at *
    generalize cube2G id x = u at *
    generalize cvB id = found at *
    cases hx : pairB x (cvPT id) with
    | false =>
      rw [hx] at RX
      rw [Bool.false_and]
      clear hx
      simp only [cvE_eq] at HK
      generalize cvNT id = tn at *
      generalize cvPT id = tp at *
      generalize cvRT id = tr at *
      generalize cvBT id = tb at *
      generalize cvKT id = tk at *
      generalize cvSz id = sz at *
      generalize cvSc id = sc at *
      generalize cvBr id = br at *
      have HG := Lib.hid (blks1 w (tqT (false, x, y)) 30)
      go_enter Try.func10, Try.ntmps10
      go_upto_region 1 with (fail)
      generalize w.alloc _ = w0 at *
      have HS := Lib.hid HG.out.h
      replace HS : Hid (Held w0 [(w.heap.size, tqT (false, x, y), 30)]) := Lib.hid (HG.out.h.pick [0] _ rfl)
      refine wp_region_line (S := fun w' => Held w' [(w.heap.size, tqT (false, x, y), 30)]) [(true, 0), (false, 1), (true, 2), (true, 3), (true, 4), (false, 5), (false, 6), (true, 7)] (by kernel_rfl) (by kernel_rfl) HS.out ?_
      refine sq_ps [(0, .int .i64 id)] (by kernel_rfl) ?_
      refine sq_c (some 9) Try.func26 (HK.out _) (by kernel_rfl) ?_
      rintro e v1 ⟨rfl, bw⟩
      replace HG := Lib.hid (HG.out.on bw)
      clear bw
      refine ⟨_, rfl, (HG.out.h.pick [0] _ rfl), ?_⟩
      refine sq_ps [(2, .tuple #[.agg (cvE (tn, tp, tr, tb, tk, sz, sc, br)), .bool found]), (3, .agg (cvE (tn, tp, tr, tb, tk, sz, sc, br))), (4, .bool found)] (by kernel_rfl) ?_
      replace HG := Lib.hid (HG.out.new (cvE (⟨#[]⟩, ⟨#[]⟩, ⟨#[]⟩, ⟨#[]⟩, noP, 0, 0, false)) 40)
      refine sq_alloc (some 5) 40 (cvE (⟨#[]⟩, ⟨#[]⟩, ⟨#[]⟩, ⟨#[]⟩, noP, 0, 0, false)) (by kernel_rfl) (by kernel_rfl) (by kernel_rfl) (by kernel_rfl) (zero_cv _) (HG.out.h.pick [1] _ rfl) ?_
      generalize v1.alloc _ = u2 at *
      generalize v1.heap.size = g2 at *
      have HN := Lib.hid (HG.out.at 0 rfl)
      replace HG : Hid (Blks w (u2.setRow g2 (cvE (tn, tp, tr, tb, tk, sz, sc, br))) [(g2, cvE (tn, tp, tr, tb, tk, sz, sc, br), 40), (w.heap.size, tqT (false, x, y), 30)]) := Lib.hid (HG.out.put 0 rfl (cvE (tn, tp, tr, tb, tk, sz, sc, br)))
      refine sq_st 40 g2 (cvE (tn, tp, tr, tb, tk, sz, sc, br)) HN.out Try.infoCv rfl (by kernel_rfl) (HG.out.h.pick [1] _ rfl) (by kernel_rfl) ?_
      clear HN
      generalize World.setRow _ g2 _ = t3 at *
      refine sq_ps [(7, .bool found)] (by kernel_rfl) ?_
      refine sq_fin { tmps := List.toArray (List.append [.int .i64 id, .agg (tqT (false, x, y)), undef, .pointer (some ⟨w.heap.size, 0, none⟩), .bool false, .pointer (some ⟨g2, 0, none⟩), .bool found, .tuple #[.agg (cvE (tn, tp, tr, tb, tk, sz, sc, br)), .bool found], .int .i64 id, .tuple #[.agg (cvE (tn, tp, tr, tb, tk, sz, sc, br)), .bool found], .agg (cvE (tn, tp, tr, tb, tk, sz, sc, br)), .bool found, undef, undef, undef, undef, undef, undef, undef, undef, undef, undef, undef, undef, undef, undef, undef, undef, undef, undef, undef, undef, undef, undef, undef, undef, undef, undef, undef, undef] ([undef, undef, undef, undef, undef, undef])), defers := [] } (by kernel_rfl) ?_
      refine (by assumption : ∀ (a : Act) (w_1 : World), Code.wp _ _ _ a w_1 → _) _ _ ?_
      go_upto_region 2 with (fail)
      replace HS : Hid (Held t3 [(g2, cvE (tn, tp, tr, tb, tk, sz, sc, br), 40), (w.heap.size, tqT (false, x, y), 30)]) := Lib.hid (HG.out.h.pick [0, 1] _ rfl)
      refine wp_region_line (S := fun w' => Held w' [(g2, cvE (tn, tp, tr, tb, tk, sz, sc, br), 40), (w.heap.size, tqT (false, x, y), 30)]) [(true, 0), (true, 1)] (by kernel_rfl) (by kernel_rfl) HS.out ?_
      refine sq_ps [(0, .pointer (some ⟨w.heap.size, 0, none⟩))] (by kernel_rfl) ?_
      refine sq_ld (some 13) (wk_b (.tail _ (.head _)) (k := 0) rfl) (by kernel_rfl) ?_
      refine sq_fin { tmps := List.toArray (List.append [.int .i64 id, .agg (tqT (false, x, y)), undef, .pointer (some ⟨w.heap.size, 0, none⟩), .bool false, .pointer (some ⟨g2, 0, none⟩), .bool found, .tuple #[.agg (cvE (tn, tp, tr, tb, tk, sz, sc, br)), .bool found], .int .i64 id, .tuple #[.agg (cvE (tn, tp, tr, tb, tk, sz, sc, br)), .bool found], .agg (cvE (tn, tp, tr, tb, tk, sz, sc, br)), .bool found, .pointer (some ⟨w.heap.size, 0, none⟩), .bool false, undef, undef, undef, undef, undef, undef, undef, undef, undef, undef, undef, undef, undef, undef, undef, undef, undef, undef, undef, undef, undef, undef, undef, undef, undef, undef] ([undef, undef, undef, undef, undef, undef])), defers := [] } (by kernel_rfl) ?_
      refine (by assumption : ∀ (a : Act) (w_1 : World), Code.wp _ _ _ a w_1 → _) _ _ ?_
      go_upto_region 4 with (fail)
      replace HS : Hid (Held t3 [(g2, cvE (tn, tp, tr, tb, tk, sz, sc, br), 40), (w.heap.size, tqT (false, x, y), 30)]) := Lib.hid (HG.out.h.pick [0, 1] _ rfl)
      replace HG := Lib.hid HG.out.drew
      replace HS := Lib.hid HS.out.drew
      refine sq_go (S := fun w' => Held w' [(g2, cvE (tn, tp, tr, tb, tk, sz, sc, br), 40), (w.heap.size, tqT (false, x, y), 30)]) [(true, 0), (true, 1), (true, 2), (true, 3), (false, 4), (true, 5), (true, 6), (true, 7), (true, 8), (true, 9), (true, 10), (true, 11), (true, 12), (true, 13), (true, 14), (true, 15), (true, 16), (true, 17), (true, 18), (true, 19), (true, 20), (true, 21), (true, 22), (true, 23), (true, 24), (true, 25), (true, 26)] (by kernel_rfl) (fun d _ _ _ _ h => by cases d <;> exact h) HS.out ?_
      refine SQ.out ?_
      refine g_ps [(0, .pointer (some ⟨w.heap.size, 1, none⟩))] (by kernel_rfl) ?_
      refine g_ld (some 21) (ld_mid' (D := aggT x) (k := 1) Try.underlying28 rfl Try.infoP (.tail _ (.head _)) rfl) (by kernel_rfl) ?_
      refine g_ps [(2, .pointer (some ⟨g2, 1, none⟩))] (by kernel_rfl) ?_
      refine g_ld (some 23) (wk_s (.head _) (k := 1) rfl) (by kernel_rfl) ?_
      refine g_c (some 24) Try.func27 (RX.out _) (by kernel_rfl) ?_
      rintro e v4 ⟨rfl, bw⟩
      replace HG := Lib.hid (HG.out.on bw)
      clear bw
      refine ⟨_, rfl, (HG.out.h.pick [0, 1] _ rfl), ?_⟩
      refine g_ps [(5, .bool false)] (by kernel_rfl) ?_
      refine g_no [6, 7, 8, 9, 10] (by kernel_rfl) ?_
      refine g_ps [(11, .bool false), (12, .bool false)] (by kernel_rfl) ?_
      refine g_no [13, 14, 15, 16, 17, 18, 19, 20, 21, 22, 23, 24] (by kernel_rfl) ?_
      refine g_ps [(25, .bool false), (26, .bool false)] (by kernel_rfl) ?_
      refine g_done ?_
      refine (by assumption : ∀ (a : Act) (w_1 : World), Code.wp _ Code.ret _ a w_1 → _) _ _ ?_
      refine wp_ret ?_
      try refine wk_block ?_
      try refine wk_then ?_
      exact wk_ret (v := .bool false) Try.results10 (by kernel_rfl) (by kernel_rfl) ⟨rfl, HG.out.b⟩
    | true =>
      rw [hx] at RX
      rw [Bool.true_and]
      cases hy : pairB y (cvPT id) with
      | false =>
        rw [hy] at RY
        rw [Bool.false_and]
        clear hx hy
        simp only [cvE_eq] at HK
        generalize cvNT id = tn at *
        generalize cvPT id = tp at *
        generalize cvRT id = tr at *
        generalize cvBT id = tb at *
        generalize cvKT id = tk at *
        generalize cvSz id = sz at *
        generalize cvSc id = sc at *
        generalize cvBr id = br at *
        have HG := Lib.hid (blks1 w (tqT (false, x, y)) 30)
        go_enter Try.func10, Try.ntmps10
        go_upto_region 1 with (fail)
        generalize w.alloc _ = w0 at *
        have HS := Lib.hid HG.out.h
        replace HS : Hid (Held w0 [(w.heap.size, tqT (false, x, y), 30)]) := Lib.hid (HG.out.h.pick [0] _ rfl)
        refine wp_region_line (S := fun w' => Held w' [(w.heap.size, tqT (false, x, y), 30)]) [(true, 0), (false, 1), (true, 2), (true, 3), (true, 4), (false, 5), (false, 6), (true, 7)] (by kernel_rfl) (by kernel_rfl) HS.out ?_
        refine sq_ps [(0, .int .i64 id)] (by kernel_rfl) ?_
        refine sq_c (some 9) Try.func26 (HK.out _) (by kernel_rfl) ?_
        rintro e v1 ⟨rfl, bw⟩
        replace HG := Lib.hid (HG.out.on bw)
        clear bw
        refine ⟨_, rfl, (HG.out.h.pick [0] _ rfl), ?_⟩
        refine sq_ps [(2, .tuple #[.agg (cvE (tn, tp, tr, tb, tk, sz, sc, br)), .bool found]), (3, .agg (cvE (tn, tp, tr, tb, tk, sz, sc, br))), (4, .bool found)] (by kernel_rfl) ?_
        replace HG := Lib.hid (HG.out.new (cvE (⟨#[]⟩, ⟨#[]⟩, ⟨#[]⟩, ⟨#[]⟩, noP, 0, 0, false)) 40)
        refine sq_alloc (some 5) 40 (cvE (⟨#[]⟩, ⟨#[]⟩, ⟨#[]⟩, ⟨#[]⟩, noP, 0, 0, false)) (by kernel_rfl) (by kernel_rfl) (by kernel_rfl) (by kernel_rfl) (zero_cv _) (HG.out.h.pick [1] _ rfl) ?_
        generalize v1.alloc _ = u2 at *
        generalize v1.heap.size = g2 at *
        have HN := Lib.hid (HG.out.at 0 rfl)
        replace HG : Hid (Blks w (u2.setRow g2 (cvE (tn, tp, tr, tb, tk, sz, sc, br))) [(g2, cvE (tn, tp, tr, tb, tk, sz, sc, br), 40), (w.heap.size, tqT (false, x, y), 30)]) := Lib.hid (HG.out.put 0 rfl (cvE (tn, tp, tr, tb, tk, sz, sc, br)))
        refine sq_st 40 g2 (cvE (tn, tp, tr, tb, tk, sz, sc, br)) HN.out Try.infoCv rfl (by kernel_rfl) (HG.out.h.pick [1] _ rfl) (by kernel_rfl) ?_
        clear HN
        generalize World.setRow _ g2 _ = t3 at *
        refine sq_ps [(7, .bool found)] (by kernel_rfl) ?_
        refine sq_fin { tmps := List.toArray (List.append [.int .i64 id, .agg (tqT (false, x, y)), undef, .pointer (some ⟨w.heap.size, 0, none⟩), .bool false, .pointer (some ⟨g2, 0, none⟩), .bool found, .tuple #[.agg (cvE (tn, tp, tr, tb, tk, sz, sc, br)), .bool found], .int .i64 id, .tuple #[.agg (cvE (tn, tp, tr, tb, tk, sz, sc, br)), .bool found], .agg (cvE (tn, tp, tr, tb, tk, sz, sc, br)), .bool found, undef, undef, undef, undef, undef, undef, undef, undef, undef, undef, undef, undef, undef, undef, undef, undef, undef, undef, undef, undef, undef, undef, undef, undef, undef, undef, undef, undef] ([undef, undef, undef, undef, undef, undef])), defers := [] } (by kernel_rfl) ?_
        refine (by assumption : ∀ (a : Act) (w_1 : World), Code.wp _ _ _ a w_1 → _) _ _ ?_
        go_upto_region 2 with (fail)
        replace HS : Hid (Held t3 [(g2, cvE (tn, tp, tr, tb, tk, sz, sc, br), 40), (w.heap.size, tqT (false, x, y), 30)]) := Lib.hid (HG.out.h.pick [0, 1] _ rfl)
        refine wp_region_line (S := fun w' => Held w' [(g2, cvE (tn, tp, tr, tb, tk, sz, sc, br), 40), (w.heap.size, tqT (false, x, y), 30)]) [(true, 0), (true, 1)] (by kernel_rfl) (by kernel_rfl) HS.out ?_
        refine sq_ps [(0, .pointer (some ⟨w.heap.size, 0, none⟩))] (by kernel_rfl) ?_
        refine sq_ld (some 13) (wk_b (.tail _ (.head _)) (k := 0) rfl) (by kernel_rfl) ?_
        refine sq_fin { tmps := List.toArray (List.append [.int .i64 id, .agg (tqT (false, x, y)), undef, .pointer (some ⟨w.heap.size, 0, none⟩), .bool false, .pointer (some ⟨g2, 0, none⟩), .bool found, .tuple #[.agg (cvE (tn, tp, tr, tb, tk, sz, sc, br)), .bool found], .int .i64 id, .tuple #[.agg (cvE (tn, tp, tr, tb, tk, sz, sc, br)), .bool found], .agg (cvE (tn, tp, tr, tb, tk, sz, sc, br)), .bool found, .pointer (some ⟨w.heap.size, 0, none⟩), .bool false, undef, undef, undef, undef, undef, undef, undef, undef, undef, undef, undef, undef, undef, undef, undef, undef, undef, undef, undef, undef, undef, undef, undef, undef, undef, undef] ([undef, undef, undef, undef, undef, undef])), defers := [] } (by kernel_rfl) ?_
        refine (by assumption : ∀ (a : Act) (w_1 : World), Code.wp _ _ _ a w_1 → _) _ _ ?_
        go_upto_region 4 with (fail)
        replace HS : Hid (Held t3 [(g2, cvE (tn, tp, tr, tb, tk, sz, sc, br), 40), (w.heap.size, tqT (false, x, y), 30)]) := Lib.hid (HG.out.h.pick [0, 1] _ rfl)
        replace HG := Lib.hid HG.out.drew
        replace HS := Lib.hid HS.out.drew
        refine sq_go (S := fun w' => Held w' [(g2, cvE (tn, tp, tr, tb, tk, sz, sc, br), 40), (w.heap.size, tqT (false, x, y), 30)]) [(true, 0), (true, 1), (true, 2), (true, 3), (false, 4), (true, 5), (true, 6), (true, 7), (true, 8), (true, 9), (false, 10), (true, 11), (true, 12), (true, 13), (true, 14), (true, 15), (true, 16), (true, 17), (true, 18), (true, 19), (true, 20), (true, 21), (true, 22), (true, 23), (true, 24), (true, 25), (true, 26)] (by kernel_rfl) (fun d _ _ _ _ h => by cases d <;> exact h) HS.out ?_
        refine SQ.out ?_
        refine g_ps [(0, .pointer (some ⟨w.heap.size, 1, none⟩))] (by kernel_rfl) ?_
        refine g_ld (some 21) (ld_mid' (D := aggT x) (k := 1) Try.underlying28 rfl Try.infoP (.tail _ (.head _)) rfl) (by kernel_rfl) ?_
        refine g_ps [(2, .pointer (some ⟨g2, 1, none⟩))] (by kernel_rfl) ?_
        refine g_ld (some 23) (wk_s (.head _) (k := 1) rfl) (by kernel_rfl) ?_
        refine g_c (some 24) Try.func27 (RX.out _) (by kernel_rfl) ?_
        rintro e v4 ⟨rfl, bw⟩
        replace HG := Lib.hid (HG.out.on bw)
        clear bw
        refine ⟨_, rfl, (HG.out.h.pick [0, 1] _ rfl), ?_⟩
        refine g_ps [(5, .bool true), (6, .pointer (some ⟨w.heap.size, 3, none⟩))] (by kernel_rfl) ?_
        refine g_ld (some 27) (ld_mid' (D := aggT y) (k := 3) Try.underlying28 rfl Try.infoP (.tail _ (.head _)) rfl) (by kernel_rfl) ?_
        refine g_ps [(8, .pointer (some ⟨g2, 1, none⟩))] (by kernel_rfl) ?_
        refine g_ld (some 29) (wk_s (.head _) (k := 1) rfl) (by kernel_rfl) ?_
        refine g_c (some 30) Try.func27 (RY.out _) (by kernel_rfl) ?_
        rintro e v5 ⟨rfl, bw⟩
        replace HG := Lib.hid (HG.out.on bw)
        clear bw
        refine ⟨_, rfl, (HG.out.h.pick [0, 1] _ rfl), ?_⟩
        refine g_ps [(11, .bool false), (12, .bool false)] (by kernel_rfl) ?_
        refine g_no [13, 14, 15, 16, 17, 18, 19, 20, 21, 22, 23, 24] (by kernel_rfl) ?_
        refine g_ps [(25, .bool false), (26, .bool false)] (by kernel_rfl) ?_
        refine g_done ?_
        refine (by assumption : ∀ (a : Act) (w_1 : World), Code.wp _ Code.ret _ a w_1 → _) _ _ ?_
        refine wp_ret ?_
        try refine wk_block ?_
        try refine wk_then ?_
        exact wk_ret (v := .bool false) Try.results10 (by kernel_rfl) (by kernel_rfl) ⟨rfl, HG.out.b⟩
      | true =>
        rw [hy] at RY
        rw [Bool.true_and]
        clear hx hy
        simp only [cvE_eq] at HK
        generalize cvNT id = tn at *
        generalize cvPT id = tp at *
        generalize cvRT id = tr at *
        generalize cvBT id = tb at *
        generalize cvKT id = tk at *
        generalize cvSz id = sz at *
        generalize cvSc id = sc at *
        generalize cvBr id = br at *
        have HG := Lib.hid (blks1 w (tqT (false, x, y)) 30)
        go_enter Try.func10, Try.ntmps10
        go_upto_region 1 with (fail)
        generalize w.alloc _ = w0 at *
        have HS := Lib.hid HG.out.h
        replace HS : Hid (Held w0 [(w.heap.size, tqT (false, x, y), 30)]) := Lib.hid (HG.out.h.pick [0] _ rfl)
        refine wp_region_line (S := fun w' => Held w' [(w.heap.size, tqT (false, x, y), 30)]) [(true, 0), (false, 1), (true, 2), (true, 3), (true, 4), (false, 5), (false, 6), (true, 7)] (by kernel_rfl) (by kernel_rfl) HS.out ?_
        refine sq_ps [(0, .int .i64 id)] (by kernel_rfl) ?_
        refine sq_c (some 9) Try.func26 (HK.out _) (by kernel_rfl) ?_
        rintro e v1 ⟨rfl, bw⟩
        replace HG := Lib.hid (HG.out.on bw)
        clear bw
        refine ⟨_, rfl, (HG.out.h.pick [0] _ rfl), ?_⟩
        refine sq_ps [(2, .tuple #[.agg (cvE (tn, tp, tr, tb, tk, sz, sc, br)), .bool found]), (3, .agg (cvE (tn, tp, tr, tb, tk, sz, sc, br))), (4, .bool found)] (by kernel_rfl) ?_
        replace HG := Lib.hid (HG.out.new (cvE (⟨#[]⟩, ⟨#[]⟩, ⟨#[]⟩, ⟨#[]⟩, noP, 0, 0, false)) 40)
        refine sq_alloc (some 5) 40 (cvE (⟨#[]⟩, ⟨#[]⟩, ⟨#[]⟩, ⟨#[]⟩, noP, 0, 0, false)) (by kernel_rfl) (by kernel_rfl) (by kernel_rfl) (by kernel_rfl) (zero_cv _) (HG.out.h.pick [1] _ rfl) ?_
        generalize v1.alloc _ = u2 at *
        generalize v1.heap.size = g2 at *
        have HN := Lib.hid (HG.out.at 0 rfl)
        replace HG : Hid (Blks w (u2.setRow g2 (cvE (tn, tp, tr, tb, tk, sz, sc, br))) [(g2, cvE (tn, tp, tr, tb, tk, sz, sc, br), 40), (w.heap.size, tqT (false, x, y), 30)]) := Lib.hid (HG.out.put 0 rfl (cvE (tn, tp, tr, tb, tk, sz, sc, br)))
        refine sq_st 40 g2 (cvE (tn, tp, tr, tb, tk, sz, sc, br)) HN.out Try.infoCv rfl (by kernel_rfl) (HG.out.h.pick [1] _ rfl) (by kernel_rfl) ?_
        clear HN
        generalize World.setRow _ g2 _ = t3 at *
        refine sq_ps [(7, .bool found)] (by kernel_rfl) ?_
        refine sq_fin { tmps := List.toArray (List.append [.int .i64 id, .agg (tqT (false, x, y)), undef, .pointer (some ⟨w.heap.size, 0, none⟩), .bool false, .pointer (some ⟨g2, 0, none⟩), .bool found, .tuple #[.agg (cvE (tn, tp, tr, tb, tk, sz, sc, br)), .bool found], .int .i64 id, .tuple #[.agg (cvE (tn, tp, tr, tb, tk, sz, sc, br)), .bool found], .agg (cvE (tn, tp, tr, tb, tk, sz, sc, br)), .bool found, undef, undef, undef, undef, undef, undef, undef, undef, undef, undef, undef, undef, undef, undef, undef, undef, undef, undef, undef, undef, undef, undef, undef, undef, undef, undef, undef, undef] ([undef, undef, undef, undef, undef, undef])), defers := [] } (by kernel_rfl) ?_
        refine (by assumption : ∀ (a : Act) (w_1 : World), Code.wp _ _ _ a w_1 → _) _ _ ?_
        go_upto_region 2 with (fail)
        replace HS : Hid (Held t3 [(g2, cvE (tn, tp, tr, tb, tk, sz, sc, br), 40), (w.heap.size, tqT (false, x, y), 30)]) := Lib.hid (HG.out.h.pick [0, 1] _ rfl)
        refine wp_region_line (S := fun w' => Held w' [(g2, cvE (tn, tp, tr, tb, tk, sz, sc, br), 40), (w.heap.size, tqT (false, x, y), 30)]) [(true, 0), (true, 1)] (by kernel_rfl) (by kernel_rfl) HS.out ?_
        refine sq_ps [(0, .pointer (some ⟨w.heap.size, 0, none⟩))] (by kernel_rfl) ?_
        refine sq_ld (some 13) (wk_b (.tail _ (.head _)) (k := 0) rfl) (by kernel_rfl) ?_
        refine sq_fin { tmps := List.toArray (List.append [.int .i64 id, .agg (tqT (false, x, y)), undef, .pointer (some ⟨w.heap.size, 0, none⟩), .bool false, .pointer (some ⟨g2, 0, none⟩), .bool found, .tuple #[.agg (cvE (tn, tp, tr, tb, tk, sz, sc, br)), .bool found], .int .i64 id, .tuple #[.agg (cvE (tn, tp, tr, tb, tk, sz, sc, br)), .bool found], .agg (cvE (tn, tp, tr, tb, tk, sz, sc, br)), .bool found, .pointer (some ⟨w.heap.size, 0, none⟩), .bool false, undef, undef, undef, undef, undef, undef, undef, undef, undef, undef, undef, undef, undef, undef, undef, undef, undef, undef, undef, undef, undef, undef, undef, undef, undef, undef] ([undef, undef, undef, undef, undef, undef])), defers := [] } (by kernel_rfl) ?_
        refine (by assumption : ∀ (a : Act) (w_1 : World), Code.wp _ _ _ a w_1 → _) _ _ ?_
        go_upto_region 4 with (fail)
        replace HS : Hid (Held t3 [(g2, cvE (tn, tp, tr, tb, tk, sz, sc, br), 40), (w.heap.size, tqT (false, x, y), 30)]) := Lib.hid (HG.out.h.pick [0, 1] _ rfl)
        replace HG := Lib.hid HG.out.drew
        replace HS := Lib.hid HS.out.drew
        refine sq_go (S := fun w' => Held w' [(g2, cvE (tn, tp, tr, tb, tk, sz, sc, br), 40), (w.heap.size, tqT (false, x, y), 30)]) [(true, 0), (true, 1), (true, 2), (true, 3), (false, 4), (true, 5), (true, 6), (true, 7), (true, 8), (true, 9), (false, 10), (true, 11), (true, 12), (true, 13), (true, 14), (true, 15), (true, 16), (true, 17), (true, 18), (true, 20), (true, 21), (true, 22), (false, 19), (false, 23), (true, 24), (true, 25), (true, 26)] (by kernel_rfl) (fun d _ _ _ _ h => by cases d <;> exact h) HS.out ?_
        refine SQ.out ?_
        refine g_ps [(0, .pointer (some ⟨w.heap.size, 1, none⟩))] (by kernel_rfl) ?_
        refine g_ld (some 21) (ld_mid' (D := aggT x) (k := 1) Try.underlying28 rfl Try.infoP (.tail _ (.head _)) rfl) (by kernel_rfl) ?_
        refine g_ps [(2, .pointer (some ⟨g2, 1, none⟩))] (by kernel_rfl) ?_
        refine g_ld (some 23) (wk_s (.head _) (k := 1) rfl) (by kernel_rfl) ?_
        refine g_c (some 24) Try.func27 (RX.out _) (by kernel_rfl) ?_
        rintro e v4 ⟨rfl, bw⟩
        replace HG := Lib.hid (HG.out.on bw)
        clear bw
        refine ⟨_, rfl, (HG.out.h.pick [0, 1] _ rfl), ?_⟩
        refine g_ps [(5, .bool true), (6, .pointer (some ⟨w.heap.size, 3, none⟩))] (by kernel_rfl) ?_
        refine g_ld (some 27) (ld_mid' (D := aggT y) (k := 3) Try.underlying28 rfl Try.infoP (.tail _ (.head _)) rfl) (by kernel_rfl) ?_
        refine g_ps [(8, .pointer (some ⟨g2, 1, none⟩))] (by kernel_rfl) ?_
        refine g_ld (some 29) (wk_s (.head _) (k := 1) rfl) (by kernel_rfl) ?_
        refine g_c (some 30) Try.func27 (RY.out _) (by kernel_rfl) ?_
        rintro e v5 ⟨rfl, bw⟩
        replace HG := Lib.hid (HG.out.on bw)
        clear bw
        refine ⟨_, rfl, (HG.out.h.pick [0, 1] _ rfl), ?_⟩
        refine g_ps [(11, .bool true), (12, .bool true), (13, .pointer (some ⟨w.heap.size, 3, none⟩))] (by kernel_rfl) ?_
        refine g_ld (some 34) (ld_mid' (D := aggT y) (k := 3) Try.underlying28 rfl Try.infoP (.tail _ (.head _)) rfl) (by kernel_rfl) ?_
        refine g_ps [(15, .pointer (some ⟨w.heap.size, 3, none⟩))] (by kernel_rfl) ?_
        refine g_ld (some 36) (ld_mid' (D := aggT y) (k := 3) Try.underlying28 rfl Try.infoP (.tail _ (.head _)) rfl) (by kernel_rfl) ?_
        refine g_ps [(17, .pointer (some ⟨g2, 1, none⟩))] (by kernel_rfl) ?_
        refine g_ld (some 38) (wk_s (.head _) (k := 1) rfl) (by kernel_rfl) ?_
        refine g_ps [(20, .int .i64 id), (21, .pointer (some ⟨w.heap.size, 1, none⟩))] (by kernel_rfl) ?_
        refine g_ld (some 42) (ld_mid' (D := aggT x) (k := 1) Try.underlying28 rfl Try.infoP (.tail _ (.head _)) rfl) (by kernel_rfl) ?_
        refine g_c (some 39) Try.func28 (HM.out _) (by kernel_rfl) ?_
        rintro e v6 ⟨rfl, bw⟩
        replace HG := Lib.hid (HG.out.on bw)
        clear bw
        refine ⟨_, rfl, (HG.out.h.pick [0, 1] _ rfl), ?_⟩
        refine g_c (some 43) Try.func29 (HU.out _) (by kernel_rfl) ?_
        rintro e v7 ⟨rfl, bw⟩
        replace HG := Lib.hid (HG.out.on bw)
        clear bw
        refine ⟨_, rfl, (HG.out.h.pick [0, 1] _ rfl), ?_⟩
        refine g_take (some 44) (.bool bo) (by kernel_rfl) (eq_pr (wanted_by (g := 12) (b := true) (d := 32) (by kernel_rfl) (by kernel_rfl) (by kernel_rfl) (by kernel_rfl)) (.tmp 39) (.tmp 43) (by kernel_rfl) m u bo HD.out (by kernel_rfl) (by kernel_rfl)) ?_
        refine g_ps [(25, .bool bo), (26, .bool bo)] (by kernel_rfl) ?_
        refine g_done ?_
        refine (by assumption : ∀ (a : Act) (w_1 : World), Code.wp _ Code.ret _ a w_1 → _) _ _ ?_
        refine wp_ret ?_
        try refine wk_block ?_
        try refine wk_then ?_
        exact wk_ret (v := .bool bo) Try.results10 (by kernel_rfl) (by kernel_rfl) ⟨rfl, HG.out.b⟩
theorem negQG_is {id : Int} {z : Bool} {x y : Pt} (h : pairPtB id (z, x, y) = true) : negQG id (z, x, y) = (z, x, negPG y (cvPT id)) := by
  have F := pair_fit h
  have hm := (curve_fit F.cv).mp
  cases z with
  | false =>
    rw [negQ_parts h]
    have iy : InP2 (gV (cvPT id)) (valP y) := F.on.2.1
    have e : negPG y (cvPT id) = txtP (negP (gV (cvPT id)) (valP y)) := by
      have ey : txtP (valP y) = y := congrArg (fun q : Tq => q.2.2) F.back
      rw [← neg_txt hm iy, ey]
    rw [e]
  | true =>
    obtain ⟨e1, e2⟩ := F.no rfl
    simp only at e1 e2
    subst e1 e2
    have h0 := mod_pos hm
    have e : negPG noP (cvPT id) = noP := by
      rw [noP_txt, neg_txt hm (zero_in h0)]
      have k := add_negP h0 (zero_in h0)
      have e0 : negP (gV (cvPT id)) (0, 0) = (0, 0) := (subP_none (zero_in h0) (zero_in h0)).2 rfl
      rw [e0]
    rw [e, negQ_txt h]
    rfl
set_option maxRecDepth 8000 in
set_option maxHeartbeats 4000000 in
theorem negPairPoint_i (id : Int) (q : Tq) (w : World) : Calls Try.prog 15 #[.int .i64 id, .agg (tqT q)] w fun e w' => e = .returned (.agg (tqT (negQG id q))) ∧ Below w.heap.size w w' := by
  have HP := Lib.hid (pairPointOk_i id q)
  cases hb : pairPtB id q with
  | false =>
    have e : negQG id q = noQ := by unfold negQG; rw [hb]; rfl
    rw [hb] at HP
    rw [e]
    clear hb e
    have HG := Lib.hid (blks2 w (tqT q) (#[.bool false, .string ⟨#[]⟩, .string ⟨#[]⟩, .string ⟨#[]⟩, .string ⟨#[]⟩]) 30 30)
    go_enter Try.func15, Try.ntmps15
    go_upto_region 1 with (fail)
    generalize (w.alloc _).alloc _ = w0 at *
    replace HG : Hid (Blks w w0 [(w.heap.size + 1, tqT (false, noP, noP), 30), (w.heap.size, tqT q, 30)]) := HG
    have HS := Lib.hid HG.out.h
    replace HS : Hid (Held w0 [((w.heap.size + 1), tqT (false, noP, noP), 30), (w.heap.size, tqT q, 30)]) := Lib.hid (HG.out.h.pick [0, 1] _ rfl)
    refine wp_region_line (S := fun w' => Held w' [((w.heap.size + 1), tqT (false, noP, noP), 30), (w.heap.size, tqT q, 30)]) [(true, 0), (true, 1), (false, 2), (true, 3)] (by kernel_rfl) (by kernel_rfl) HS.out ?_
    refine sq_ps [(0, .int .i64 id)] (by kernel_rfl) ?_
    refine sq_ld (some 8) (ld_mid' (D := tqT q) (k := 0) Try.underlying30 rfl Try.infoPq (.tail _ (.head _)) rfl) (by kernel_rfl) ?_
    refine sq_c (some 9) Try.func10 (HP.out _) (by kernel_rfl) ?_
    rintro e v1 ⟨rfl, bw⟩
    replace HG := Lib.hid (HG.out.on bw)
    clear bw
    refine ⟨_, rfl, (HG.out.h.pick [0, 1] _ rfl), ?_⟩
    refine sq_ps [(3, .bool true)] (by kernel_rfl) ?_
    refine sq_fin { tmps := List.toArray ([.int .i64 id, .agg (tqT q), undef, .pointer (some ⟨w.heap.size, 0, none⟩), .pointer (some ⟨(w.heap.size + 1), 0, none⟩), undef, undef, .int .i64 id, .agg (tqT q), .bool false, .bool true, undef, undef, undef, undef, undef, undef, undef, undef, undef, undef, undef, undef, undef]), defers := [] } (by kernel_rfl) ?_
    refine (by assumption : ∀ (a : Act) (w_1 : World), Code.wp _ _ _ a w_1 → _) _ _ ?_
    go_upto_region 2 with (fail)
    replace HS : Hid (Held v1 [(w.heap.size, tqT q, 30)]) := Lib.hid (HG.out.h.pick [1] _ rfl)
    refine wp_region_line (S := fun w' => Held w' [(w.heap.size, tqT q, 30)]) [(true, 0), (false, 1)] (by kernel_rfl) (by kernel_rfl) HS.out ?_
    refine sq_pure (some 11) (.agg (tqT (false, noP, noP))) (by kernel_rfl) (by kernel_rfl) (held_build 30 #[] (by kernel_rfl) _ (by kernel_rfl) _ built_pq0) ?_
    have HN := Lib.hid (HG.out.at 0 rfl)
    replace HG : Hid (Blks w (v1.setRow (w.heap.size + 1) (tqT (false, noP, noP))) [((w.heap.size + 1), tqT (false, noP, noP), 30), (w.heap.size, tqT q, 30)]) := Lib.hid (HG.out.put 0 rfl (tqT (false, noP, noP)))
    refine sq_st 30 (w.heap.size + 1) (tqT (false, noP, noP)) HN.out Try.infoPq rfl (by kernel_rfl) (HG.out.h.pick [1] _ rfl) (by kernel_rfl) ?_
    clear HN
    generalize World.setRow _ (w.heap.size + 1) _ = t2 at *
    refine sq_done ?_
    refine (by assumption : ∀ (a : Act) (w_1 : World), Code.wp _ Code.ret _ a w_1 → _) _ _ ?_
    refine wp_ret ?_
    try refine wk_block ?_
    try refine wk_then ?_
    exact bodyPost_ret (results_cell_row Try.results15 _ _ (w.heap.size + 1) _ _ _ _ (by kernel_rfl) (HG.out.at 0 rfl) Try.underlying30 rfl Try.infoPq) (by kernel_rfl) ⟨rfl, HG.out.b⟩
  | true =>
    rw [hb] at HP
    obtain ⟨z, x, y⟩ := q
    rw [negQG_is hb]
    have HK := Lib.hid (curveOf_i id)
    have HN1 := Lib.hid (negPair_i y (cvPT id))
    rw [(pair_fit hb).cv] at HK
    clear hb
    generalize negPG y (cvPT id) = ng at *
    simp only [cvE_eq] at HK
    generalize cvNT id = tn at *
    generalize cvPT id = tp at *
    generalize cvRT id = tr at *
    generalize cvBT id = tb at *
    generalize cvKT id = tk at *
    generalize cvSz id = sz at *
    generalize cvSc id = sc at *
    generalize cvBr id = br at *
    have HG := Lib.hid (blks2 w (tqT (z, x, y)) (#[.bool false, .string ⟨#[]⟩, .string ⟨#[]⟩, .string ⟨#[]⟩, .string ⟨#[]⟩]) 30 30)
    go_enter Try.func15, Try.ntmps15
    go_upto_region 1 with (fail)
    generalize (w.alloc _).alloc _ = w0 at *
    replace HG : Hid (Blks w w0 [(w.heap.size + 1, tqT (false, noP, noP), 30), (w.heap.size, tqT (z, x, y), 30)]) := HG
    have HS := Lib.hid HG.out.h
    replace HS : Hid (Held w0 [((w.heap.size + 1), tqT (false, noP, noP), 30), (w.heap.size, tqT (z, x, y), 30)]) := Lib.hid (HG.out.h.pick [0, 1] _ rfl)
    refine wp_region_line (S := fun w' => Held w' [((w.heap.size + 1), tqT (false, noP, noP), 30), (w.heap.size, tqT (z, x, y), 30)]) [(true, 0), (true, 1), (false, 2), (true, 3)] (by kernel_rfl) (by kernel_rfl) HS.out ?_
    refine sq_ps [(0, .int .i64 id)] (by kernel_rfl) ?_
    refine sq_ld (some 8) (ld_mid' (D := tqT (z, x, y)) (k := 0) Try.underlying30 rfl Try.infoPq (.tail _ (.head _)) rfl) (by kernel_rfl) ?_
    refine sq_c (some 9) Try.func10 (HP.out _) (by kernel_rfl) ?_
    rintro e v1 ⟨rfl, bw⟩
    replace HG := Lib.hid (HG.out.on bw)
    clear bw
    refine ⟨_, rfl, (HG.out.h.pick [0, 1] _ rfl), ?_⟩
    refine sq_ps [(3, .bool false)] (by kernel_rfl) ?_
    refine sq_fin { tmps := List.toArray ([.int .i64 id, .agg (tqT (z, x, y)), undef, .pointer (some ⟨w.heap.size, 0, none⟩), .pointer (some ⟨(w.heap.size + 1), 0, none⟩), undef, undef, .int .i64 id, .agg (tqT (z, x, y)), .bool true, .bool false, undef, undef, undef, undef, undef, undef, undef, undef, undef, undef, undef, undef, undef]), defers := [] } (by kernel_rfl) ?_
    refine (by assumption : ∀ (a : Act) (w_1 : World), Code.wp _ _ _ a w_1 → _) _ _ ?_
    go_upto_region 3 with (fail)
    replace HS : Hid (Held v1 [((w.heap.size + 1), tqT (false, noP, noP), 30), (w.heap.size, tqT (z, x, y), 30)]) := Lib.hid (HG.out.h.pick [0, 1] _ rfl)
    refine wp_region_line (S := fun w' => Held w' [((w.heap.size + 1), tqT (false, noP, noP), 30), (w.heap.size, tqT (z, x, y), 30)]) [(true, 0), (false, 1), (true, 2), (true, 3), (true, 4), (false, 5), (false, 6), (true, 7)] (by kernel_rfl) (by kernel_rfl) HS.out ?_
    refine sq_ps [(0, .int .i64 id)] (by kernel_rfl) ?_
    refine sq_c (some 14) Try.func26 (HK.out _) (by kernel_rfl) ?_
    rintro e v2 ⟨rfl, bw⟩
    replace HG := Lib.hid (HG.out.on bw)
    clear bw
    refine ⟨_, rfl, (HG.out.h.pick [0, 1] _ rfl), ?_⟩
    refine sq_ps [(2, .tuple #[.agg (cvE (tn, tp, tr, tb, tk, sz, sc, br)), .bool true]), (3, .agg (cvE (tn, tp, tr, tb, tk, sz, sc, br))), (4, .bool true)] (by kernel_rfl) ?_
    replace HG := Lib.hid (HG.out.new (cvE (⟨#[]⟩, ⟨#[]⟩, ⟨#[]⟩, ⟨#[]⟩, noP, 0, 0, false)) 40)
    refine sq_alloc (some 5) 40 (cvE (⟨#[]⟩, ⟨#[]⟩, ⟨#[]⟩, ⟨#[]⟩, noP, 0, 0, false)) (by kernel_rfl) (by kernel_rfl) (by kernel_rfl) (by kernel_rfl) (zero_cv _) (HG.out.h.pick [1, 2] _ rfl) ?_
    generalize v2.alloc _ = u3 at *
    generalize v2.heap.size = g3 at *
    have HN := Lib.hid (HG.out.at 0 rfl)
    replace HG : Hid (Blks w (u3.setRow g3 (cvE (tn, tp, tr, tb, tk, sz, sc, br))) [(g3, cvE (tn, tp, tr, tb, tk, sz, sc, br), 40), ((w.heap.size + 1), tqT (false, noP, noP), 30), (w.heap.size, tqT (z, x, y), 30)]) := Lib.hid (HG.out.put 0 rfl (cvE (tn, tp, tr, tb, tk, sz, sc, br)))
    refine sq_st 40 g3 (cvE (tn, tp, tr, tb, tk, sz, sc, br)) HN.out Try.infoCv rfl (by kernel_rfl) (HG.out.h.pick [1, 2] _ rfl) (by kernel_rfl) ?_
    clear HN
    generalize World.setRow _ g3 _ = t4 at *
    refine sq_ps [(7, .bool true)] (by kernel_rfl) ?_
    refine sq_fin { tmps := List.toArray ([.int .i64 id, .agg (tqT (z, x, y)), undef, .pointer (some ⟨w.heap.size, 0, none⟩), .pointer (some ⟨(w.heap.size + 1), 0, none⟩), .pointer (some ⟨g3, 0, none⟩), .bool true, .int .i64 id, .agg (tqT (z, x, y)), .bool true, .bool false, undef, .tuple #[.agg (cvE (tn, tp, tr, tb, tk, sz, sc, br)), .bool true], .int .i64 id, .tuple #[.agg (cvE (tn, tp, tr, tb, tk, sz, sc, br)), .bool true], .agg (cvE (tn, tp, tr, tb, tk, sz, sc, br)), .bool true, undef, undef, undef, undef, undef, undef, undef]), defers := [] } (by kernel_rfl) ?_
    refine (by assumption : ∀ (a : Act) (w_1 : World), Code.wp _ _ _ a w_1 → _) _ _ ?_
    go_upto_region 4 with (fail)
    replace HS : Hid (Held t4 [(g3, cvE (tn, tp, tr, tb, tk, sz, sc, br), 40), ((w.heap.size + 1), tqT (false, noP, noP), 30)]) := Lib.hid (HG.out.h.pick [0, 1] _ rfl)
    refine wp_region_line (S := fun w' => Held w' [(g3, cvE (tn, tp, tr, tb, tk, sz, sc, br), 40), ((w.heap.size + 1), tqT (false, noP, noP), 30)]) [(true, 0), (false, 1), (true, 2), (true, 3), (false, 4), (true, 5), (false, 6)] (by kernel_rfl) (by kernel_rfl) HS.out ?_
    refine sq_ps [(0, .pointer (some ⟨w.heap.size, 3, none⟩))] (by kernel_rfl) ?_
    refine wk_now (some 18) ((ld_mid' (D := aggT y) (k := 3) Try.underlying28 rfl Try.infoP (.tail _ (.tail _ (.head _))) rfl) _ HG.out.h) (HG.out.h.pick [0, 1] _ rfl) (by kernel_rfl) ?_
    refine sq_ps [(2, .pointer (some ⟨g3, 1, none⟩))] (by kernel_rfl) ?_
    refine sq_ld (some 20) (wk_s (.head _) (k := 1) rfl) (by kernel_rfl) ?_
    refine sq_c (some 21) Try.func34 (HN1.out _) (by kernel_rfl) ?_
    rintro e v5 ⟨rfl, bw⟩
    replace HG := Lib.hid (HG.out.on bw)
    clear bw
    refine ⟨_, rfl, (HG.out.h.pick [0, 1] _ rfl), ?_⟩
    refine sq_ps [(5, .pointer (some ⟨w.heap.size, 3, none⟩))] (by kernel_rfl) ?_
    have HN := Lib.hid (HG.out.at 2 rfl)
    replace HG : Hid (Blks w (v5.setRow w.heap.size (tqT (z, x, ng))) [(g3, cvE (tn, tp, tr, tb, tk, sz, sc, br), 40), ((w.heap.size + 1), tqT (false, noP, noP), 30), (w.heap.size, tqT (z, x, ng), 30)]) := Lib.hid (HG.out.put 2 rfl (tqT (z, x, ng)))
    refine sq_stm 28 w.heap.size 3 (.agg (aggT ng)) (tqT (z, x, ng)) HN.out Try.infoP (by kernel_rfl) (by kernel_rfl) rfl (HG.out.h.pick [0, 1] _ rfl) (by kernel_rfl) ?_
    clear HN
    generalize World.setRow _ w.heap.size _ = t6 at *
    refine sq_fin { tmps := List.toArray ([.int .i64 id, .agg (tqT (z, x, y)), undef, .pointer (some ⟨w.heap.size, 0, none⟩), .pointer (some ⟨(w.heap.size + 1), 0, none⟩), .pointer (some ⟨g3, 0, none⟩), .bool true, .int .i64 id, .agg (tqT (z, x, y)), .bool true, .bool false, undef, .tuple #[.agg (cvE (tn, tp, tr, tb, tk, sz, sc, br)), .bool true], .int .i64 id, .tuple #[.agg (cvE (tn, tp, tr, tb, tk, sz, sc, br)), .bool true], .agg (cvE (tn, tp, tr, tb, tk, sz, sc, br)), .bool true, .pointer (some ⟨w.heap.size, 3, none⟩), .agg (aggT y), .pointer (some ⟨g3, 1, none⟩), .string tp, .agg (aggT ng), .pointer (some ⟨w.heap.size, 3, none⟩), undef]), defers := [] } (by kernel_rfl) ?_
    refine (by assumption : ∀ (a : Act) (w_1 : World), Code.wp _ _ _ a w_1 → _) _ _ ?_
    go_upto_region 5 with (fail)
    replace HS : Hid (Held t6 [(g3, cvE (tn, tp, tr, tb, tk, sz, sc, br), 40), (w.heap.size, tqT (z, x, ng), 30)]) := Lib.hid (HG.out.h.pick [0, 2] _ rfl)
    refine wp_region_line (S := fun w' => Held w' [(g3, cvE (tn, tp, tr, tb, tk, sz, sc, br), 40), (w.heap.size, tqT (z, x, ng), 30)]) [(true, 0), (false, 1)] (by kernel_rfl) (by kernel_rfl) HS.out ?_
    refine sq_ld (some 23) (ld_mid' (D := tqT (z, x, ng)) (k := 0) Try.underlying30 rfl Try.infoPq (.tail _ (.head _)) rfl) (by kernel_rfl) ?_
    have HN := Lib.hid (HG.out.at 1 rfl)
    replace HG : Hid (Blks w (t6.setRow (w.heap.size + 1) (tqT (z, x, ng))) [(g3, cvE (tn, tp, tr, tb, tk, sz, sc, br), 40), ((w.heap.size + 1), tqT (z, x, ng), 30), (w.heap.size, tqT (z, x, ng), 30)]) := Lib.hid (HG.out.put 1 rfl (tqT (z, x, ng)))
    refine sq_st 30 (w.heap.size + 1) (tqT (z, x, ng)) HN.out Try.infoPq rfl (by kernel_rfl) (HG.out.h.pick [0, 2] _ rfl) (by kernel_rfl) ?_
    clear HN
    generalize World.setRow _ (w.heap.size + 1) _ = t7 at *
    refine sq_done ?_
    refine (by assumption : ∀ (a : Act) (w_1 : World), Code.wp _ Code.ret _ a w_1 → _) _ _ ?_
    refine wp_ret ?_
    try refine wk_block ?_
    try refine wk_then ?_
    exact bodyPost_ret (results_cell_row Try.results15 _ _ (w.heap.size + 1) _ _ _ _ (by kernel_rfl) (HG.out.at 1 rfl) Try.underlying30 rfl Try.infoPq) (by kernel_rfl) ⟨rfl, HG.out.b⟩
end Go.Proofs.Ytdajgcgliidjbaa

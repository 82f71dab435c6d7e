import Derived.Test.YtdajgcgliidjbaaGreatZQb
import Derived.Test.YtdajgcgliidjbaaGreatZPoint
import Derived.Test.YtdajgcgliidjbaaGreatUInvs
import Derived.Test.YtdajgcgliidjbaaGreatQSpec
import Derived.Test.YtdajgcgliidjbaaGreatYSpec
import Derived.Test.YtdajgcgliidjbaaGreatVRootS
set_option maxRecDepth 8000
set_option maxHeartbeats 4000000
namespace Go.Proofs.YtdajgcgliidjbaaGreat
open Go.RowKit
theorem none_dec (x : Pt) : decide (x = noP) = noneP x := by
 cases h : noneP x with
 | true => exact decide_eq_true (none_p.1 h)
 | false => exact decide_eq_false (fun e => by rw [none_p.2 e] at h; cases h)
theorem liftPairPoint_any (id : Int) (x : Pt) (gr : Bool) (w : World) : Calls Tryz.prog 23 #[.int .i64 id, .agg (aggT x), .bool gr] w fun e w' => e = .returned (.tuple #[.agg (tqT (liftQG id x gr)), .bool (liftQB id x gr)]) ∧ Below w.heap.size w w' := by
 have HK := Lib.hid (curveOf_any id)
 have RX := Lib.hid (pairOk_any x (cvPT id))
 have HU := Lib.hid (cubeAndPair_any id x)
 have HRt := Lib.hid (pairRoot_any (cube2G id x) (cvPT id))
 have HNg := Lib.hid (negPair_any (prootG (cube2G id x) (cvPT id)) (cvPT id))
 have HZ := Lib.hid (none_dec (prootG (cube2G id x) (cvPT id)))
 unfold PRootPost at HRt
 unfold liftQG liftQB
 cases hb : cvB id with
 | false =>
  rw [hb] at HK
  rw [Bool.false_and, Bool.false_and, if_neg Bool.false_ne_true]
  clear hb
  simp only [cvE_eq] at HK
  generalize cvNT id = tn at *
  generalize cvPT id = tp at *
  generalize cvRT id = tr at *
  generalize cvBT id = tb at *
  generalize cvKT id = tk at *
  generalize cvSz id = sz at *
  generalize cvSc id = sc at *
  generalize cvBr id = br at *
  have HG := Lib.hid (blks2 w (aggT x) (#[.bool false, .string ⟨#[]⟩, .string ⟨#[]⟩, .string ⟨#[]⟩, .string ⟨#[]⟩]) 25 27)
  go_enter Tryz.func23, Tryz.ntmps23
  go_upto_region 1 with (fail)
  generalize (w.alloc _).alloc _ = w0 at *
  replace HG : Hid (Blks w w0 [(w.heap.size + 1, tqT (false, noP, noP), 27), (w.heap.size, aggT x, 25)]) := HG
  have HS := Lib.hid HG.out.h
  replace HS : Hid (Held w0 [((w.heap.size + 1), tqT (false, noP, noP), 27), (w.heap.size, aggT x, 25)]) := Lib.hid (HG.out.h.pick [0, 1] _ rfl)
  refine wp_region_linek (S := fun w' => Held w' [((w.heap.size + 1), tqT (false, noP, noP), 27), (w.heap.size, aggT x, 25)]) [(true, 0), (false, 1), (true, 2), (true, 3), (true, 4), (false, 5), (false, 6), (true, 7)] HS.out ?_
  refine sq_psk [(0, .int .i64 id)] ?_
  refine sq_ck (some 14) Tryz.func14 (HK.out _) ?_
  rintro e v1 ⟨rfl, bw⟩
  replace HG := Lib.hid (HG.out.on bw)
  clear bw
  refine ⟨_, rfl, (HG.out.h.pick [0, 1] _ rfl), ?_⟩
  refine sq_psk [(2, .tuple #[.agg (cvE (tn, tp, tr, tb, tk, sz, sc, br)), .bool false]), (3, .agg (cvE (tn, tp, tr, tb, tk, sz, sc, br))), (4, .bool false)] ?_
  replace HG := Lib.hid (HG.out.new (cvE (⟨#[]⟩, ⟨#[]⟩, ⟨#[]⟩, ⟨#[]⟩, noP, 0, 0, false)) 35)
  refine sq_allock (some 8) 35 (cvE (⟨#[]⟩, ⟨#[]⟩, ⟨#[]⟩, ⟨#[]⟩, noP, 0, 0, false)) (zero_cv _) (HG.out.h.pick [1, 2] _ rfl) ?_
  generalize v1.alloc _ = u2 at *
  generalize v1.heap.size = g2 at *
  have HN := Lib.hid (HG.out.at 0 rfl)
  replace HG : Hid (Blks w (u2.setRow g2 (cvE (tn, tp, tr, tb, tk, sz, sc, br))) [(g2, cvE (tn, tp, tr, tb, tk, sz, sc, br), 35), ((w.heap.size + 1), tqT (false, noP, noP), 27), (w.heap.size, aggT x, 25)]) := Lib.hid (HG.out.put 0 rfl (cvE (tn, tp, tr, tb, tk, sz, sc, br)))
  refine sq_stk 35 g2 (cvE (tn, tp, tr, tb, tk, sz, sc, br)) HN.out Tryz.infoCv rfl (HG.out.h.pick [1, 2] _ rfl) ?_
  clear HN
  generalize World.setRow _ g2 _ = t3 at *
  refine sq_psk [(7, .bool false)] ?_
  refine sq_fink { tmps := List.toArray (List.append [.int .i64 id, .agg (aggT x), .bool gr, undef, .pointer (some ⟨w.heap.size, 0, none⟩), undef, .pointer (some ⟨(w.heap.size + 1), 0, none⟩), .bool false, .pointer (some ⟨g2, 0, none⟩), .bool false, undef, undef, .tuple #[.agg (cvE (tn, tp, tr, tb, tk, sz, sc, br)), .bool false], .int .i64 id, .tuple #[.agg (cvE (tn, tp, tr, tb, tk, sz, sc, br)), .bool false], .agg (cvE (tn, tp, tr, tb, tk, sz, sc, br)), .bool false, undef, undef, undef, undef, undef, undef, undef, undef, undef, undef, undef, undef, undef, undef, undef, undef, undef, undef, undef, undef, undef, undef, undef] ([undef, undef, undef, undef, undef, undef, undef, undef, undef, undef, undef, undef, undef, undef, undef])), defers := [] } ?_
  refine ‹∀ a w, Code.wp _ _ _ a w → _› _ _ ?_
  go_upto_region 2 with (fail)
  replace HS : Hid (Held t3 [(g2, cvE (tn, tp, tr, tb, tk, sz, sc, br), 35), ((w.heap.size + 1), tqT (false, noP, noP), 27), (w.heap.size, aggT x, 25)]) := Lib.hid (HG.out.h.pick [0, 1, 2] _ rfl)
  refine wp_region_linek (S := fun w' => Held w' [(g2, cvE (tn, tp, tr, tb, tk, sz, sc, br), 35), ((w.heap.size + 1), tqT (false, noP, noP), 27), (w.heap.size, aggT x, 25)]) [(true, 0), (true, 1), (true, 2), (true, 3), (true, 4), (true, 5), (true, 6), (true, 7), (true, 8)] HS.out ?_
  refine SQ.out ?_
  refine g_psk [(0, .bool false), (1, .bool true), (2, .bool true)] ?_
  refine g_nok [3, 4, 5, 6, 7] ?_
  refine g_psk [(8, .bool true)] ?_
  refine g_normk { tmps := List.toArray (List.append [.int .i64 id, .agg (aggT x), .bool gr, undef, .pointer (some ⟨w.heap.size, 0, none⟩), undef, .pointer (some ⟨(w.heap.size + 1), 0, none⟩), .bool false, .pointer (some ⟨g2, 0, none⟩), .bool false, undef, undef, .tuple #[.agg (cvE (tn, tp, tr, tb, tk, sz, sc, br)), .bool false], .int .i64 id, .tuple #[.agg (cvE (tn, tp, tr, tb, tk, sz, sc, br)), .bool false], .agg (cvE (tn, tp, tr, tb, tk, sz, sc, br)), .bool false, .bool false, .bool true, .bool true, undef, undef, undef, undef, undef, .bool true, undef, undef, undef, undef, undef, undef, undef, undef, undef, undef, undef, undef, undef, undef] ([undef, undef, undef, undef, undef, undef, undef, undef, undef, undef, undef, undef, undef, undef, undef])), defers := [] } ?_
  refine g_done ?_
  refine ‹∀ a w, Code.wp _ _ _ a w → _› _ _ ?_
  go_upto_region 3 with (fail)
  replace HS : Hid (Held t3 [(g2, cvE (tn, tp, tr, tb, tk, sz, sc, br), 35), (w.heap.size, aggT x, 25)]) := Lib.hid (HG.out.h.pick [0, 2] _ rfl)
  refine wp_region_linek (S := fun w' => Held w' [(g2, cvE (tn, tp, tr, tb, tk, sz, sc, br), 35), (w.heap.size, aggT x, 25)]) [(true, 0), (false, 1), (true, 2)] HS.out ?_
  refine sq_pure (some 26) (.agg (tqT (false, noP, noP))) (by kernel_rfl) (by kernel_rfl) (held_build 27 #[] (by kernel_rfl) _ (by kernel_rfl) _ built_pq0) ?_
  have HN := Lib.hid (HG.out.at 1 rfl)
  replace HG : Hid (Blks w (t3.setRow (w.heap.size + 1) (tqT (false, noP, noP))) [(g2, cvE (tn, tp, tr, tb, tk, sz, sc, br), 35), ((w.heap.size + 1), tqT (false, noP, noP), 27), (w.heap.size, aggT x, 25)]) := Lib.hid (HG.out.put 1 rfl (tqT (false, noP, noP)))
  refine sq_stk 27 (w.heap.size + 1) (tqT (false, noP, noP)) HN.out Tryz.infoPq rfl (HG.out.h.pick [0, 2] _ rfl) ?_
  clear HN
  generalize World.setRow _ (w.heap.size + 1) _ = t4 at *
  refine sq_psk [(2, .bool false)] ?_
  refine sq_done ?_
  refine ‹∀ a w, Code.wp _ Code.ret _ a w → _› _ _ ?_
  refine wp_ret ?_
  try refine wk_block ?_
  try refine wk_then ?_
  exact bodyPost_ret (res_ct (C := tqT (false, noP, noP)) Tryz.underlying27 rfl Tryz.infoPq (HG.out.at 1 rfl) Tryz.results23 _ (by kernel_rfl) (v := .bool false) (by kernel_rfl)) (by kernel_rfl) ⟨rfl, HG.out.b⟩
 | true =>
 rw [hb] at HK
 rw [Bool.true_and]
 clear hb
 cases hx : pairB x (cvPT id) with
 | false =>
  rw [hx] at RX
  rw [Bool.false_and, if_neg Bool.false_ne_true]
  clear hx
  simp only [cvE_eq] at HK
  generalize cvNT id = tn at *
  generalize cvPT id = tp at *
  generalize cvRT id = tr at *
  generalize cvBT id = tb at *
  generalize cvKT id = tk at *
  generalize cvSz id = sz at *
  generalize cvSc id = sc at *
  generalize cvBr id = br at *
  have HG := Lib.hid (blks2 w (aggT x) (#[.bool false, .string ⟨#[]⟩, .string ⟨#[]⟩, .string ⟨#[]⟩, .string ⟨#[]⟩]) 25 27)
  go_enter Tryz.func23, Tryz.ntmps23
  go_upto_region 1 with (fail)
  generalize (w.alloc _).alloc _ = w0 at *
  replace HG : Hid (Blks w w0 [(w.heap.size + 1, tqT (false, noP, noP), 27), (w.heap.size, aggT x, 25)]) := HG
  have HS := Lib.hid HG.out.h
  replace HS : Hid (Held w0 [((w.heap.size + 1), tqT (false, noP, noP), 27), (w.heap.size, aggT x, 25)]) := Lib.hid (HG.out.h.pick [0, 1] _ rfl)
  refine wp_region_linek (S := fun w' => Held w' [((w.heap.size + 1), tqT (false, noP, noP), 27), (w.heap.size, aggT x, 25)]) [(true, 0), (false, 1), (true, 2), (true, 3), (true, 4), (false, 5), (false, 6), (true, 7)] HS.out ?_
  refine sq_psk [(0, .int .i64 id)] ?_
  refine sq_ck (some 14) Tryz.func14 (HK.out _) ?_
  rintro e v1 ⟨rfl, bw⟩
  replace HG := Lib.hid (HG.out.on bw)
  clear bw
  refine ⟨_, rfl, (HG.out.h.pick [0, 1] _ rfl), ?_⟩
  refine sq_psk [(2, .tuple #[.agg (cvE (tn, tp, tr, tb, tk, sz, sc, br)), .bool true]), (3, .agg (cvE (tn, tp, tr, tb, tk, sz, sc, br))), (4, .bool true)] ?_
  replace HG := Lib.hid (HG.out.new (cvE (⟨#[]⟩, ⟨#[]⟩, ⟨#[]⟩, ⟨#[]⟩, noP, 0, 0, false)) 35)
  refine sq_allock (some 8) 35 (cvE (⟨#[]⟩, ⟨#[]⟩, ⟨#[]⟩, ⟨#[]⟩, noP, 0, 0, false)) (zero_cv _) (HG.out.h.pick [1, 2] _ rfl) ?_
  generalize v1.alloc _ = u2 at *
  generalize v1.heap.size = g2 at *
  have HN := Lib.hid (HG.out.at 0 rfl)
  replace HG : Hid (Blks w (u2.setRow g2 (cvE (tn, tp, tr, tb, tk, sz, sc, br))) [(g2, cvE (tn, tp, tr, tb, tk, sz, sc, br), 35), ((w.heap.size + 1), tqT (false, noP, noP), 27), (w.heap.size, aggT x, 25)]) := Lib.hid (HG.out.put 0 rfl (cvE (tn, tp, tr, tb, tk, sz, sc, br)))
  refine sq_stk 35 g2 (cvE (tn, tp, tr, tb, tk, sz, sc, br)) HN.out Tryz.infoCv rfl (HG.out.h.pick [1, 2] _ rfl) ?_
  clear HN
  generalize World.setRow _ g2 _ = t3 at *
  refine sq_psk [(7, .bool true)] ?_
  refine sq_fink { tmps := List.toArray (List.append [.int .i64 id, .agg (aggT x), .bool gr, undef, .pointer (some ⟨w.heap.size, 0, none⟩), undef, .pointer (some ⟨(w.heap.size + 1), 0, none⟩), .bool false, .pointer (some ⟨g2, 0, none⟩), .bool true, undef, undef, .tuple #[.agg (cvE (tn, tp, tr, tb, tk, sz, sc, br)), .bool true], .int .i64 id, .tuple #[.agg (cvE (tn, tp, tr, tb, tk, sz, sc, br)), .bool true], .agg (cvE (tn, tp, tr, tb, tk, sz, sc, br)), .bool true, undef, undef, undef, undef, undef, undef, undef, undef, undef, undef, undef, undef, undef, undef, undef, undef, undef, undef, undef, undef, undef, undef, undef] ([undef, undef, undef, undef, undef, undef, undef, undef, undef, undef, undef, undef, undef, undef, undef])), defers := [] } ?_
  refine ‹∀ a w, Code.wp _ _ _ a w → _› _ _ ?_
  go_upto_region 2 with (fail)
  replace HS : Hid (Held t3 [(g2, cvE (tn, tp, tr, tb, tk, sz, sc, br), 35), ((w.heap.size + 1), tqT (false, noP, noP), 27), (w.heap.size, aggT x, 25)]) := Lib.hid (HG.out.h.pick [0, 1, 2] _ rfl)
  refine wp_region_linek (S := fun w' => Held w' [(g2, cvE (tn, tp, tr, tb, tk, sz, sc, br), 35), ((w.heap.size + 1), tqT (false, noP, noP), 27), (w.heap.size, aggT x, 25)]) [(true, 0), (true, 1), (true, 2), (true, 3), (true, 4), (true, 5), (false, 6), (true, 7), (true, 8)] HS.out ?_
  refine SQ.out ?_
  refine g_psk [(0, .bool true), (1, .bool false), (2, .bool false)] ?_
  refine g_ldk (some 20) (ld_mid' (D := aggT x) (k := 0) Tryz.underlying25 rfl Tryz.infoP (.tail _ (.tail _ (.head _))) rfl) ?_
  refine g_psk [(4, .pointer (some ⟨g2, 1, none⟩))] ?_
  refine g_ldk (some 22) (wk_s (.head _) (k := 1) rfl) ?_
  refine g_ck (some 23) Tryz.func30 (RX.out _) ?_
  rintro e v4 ⟨rfl, bw⟩
  replace HG := Lib.hid (HG.out.on bw)
  clear bw
  refine ⟨_, rfl, (HG.out.h.pick [0, 1, 2] _ rfl), ?_⟩
  refine g_psk [(7, .bool true), (8, .bool true)] ?_
  refine g_normk { tmps := List.toArray (List.append [.int .i64 id, .agg (aggT x), .bool gr, undef, .pointer (some ⟨w.heap.size, 0, none⟩), undef, .pointer (some ⟨(w.heap.size + 1), 0, none⟩), .bool false, .pointer (some ⟨g2, 0, none⟩), .bool true, undef, undef, .tuple #[.agg (cvE (tn, tp, tr, tb, tk, sz, sc, br)), .bool true], .int .i64 id, .tuple #[.agg (cvE (tn, tp, tr, tb, tk, sz, sc, br)), .bool true], .agg (cvE (tn, tp, tr, tb, tk, sz, sc, br)), .bool true, .bool true, .bool false, .bool false, .agg (aggT x), .pointer (some ⟨g2, 1, none⟩), .string tp, .bool false, .bool true, .bool true, undef, undef, undef, undef, undef, undef, undef, undef, undef, undef, undef, undef, undef, undef] ([undef, undef, undef, undef, undef, undef, undef, undef, undef, undef, undef, undef, undef, undef, undef])), defers := [] } ?_
  refine g_done ?_
  refine ‹∀ a w, Code.wp _ _ _ a w → _› _ _ ?_
  go_upto_region 3 with (fail)
  replace HS : Hid (Held v4 [(g2, cvE (tn, tp, tr, tb, tk, sz, sc, br), 35), (w.heap.size, aggT x, 25)]) := Lib.hid (HG.out.h.pick [0, 2] _ rfl)
  refine wp_region_linek (S := fun w' => Held w' [(g2, cvE (tn, tp, tr, tb, tk, sz, sc, br), 35), (w.heap.size, aggT x, 25)]) [(true, 0), (false, 1), (true, 2)] HS.out ?_
  refine sq_pure (some 26) (.agg (tqT (false, noP, noP))) (by kernel_rfl) (by kernel_rfl) (held_build 27 #[] (by kernel_rfl) _ (by kernel_rfl) _ built_pq0) ?_
  have HN := Lib.hid (HG.out.at 1 rfl)
  replace HG : Hid (Blks w (v4.setRow (w.heap.size + 1) (tqT (false, noP, noP))) [(g2, cvE (tn, tp, tr, tb, tk, sz, sc, br), 35), ((w.heap.size + 1), tqT (false, noP, noP), 27), (w.heap.size, aggT x, 25)]) := Lib.hid (HG.out.put 1 rfl (tqT (false, noP, noP)))
  refine sq_stk 27 (w.heap.size + 1) (tqT (false, noP, noP)) HN.out Tryz.infoPq rfl (HG.out.h.pick [0, 2] _ rfl) ?_
  clear HN
  generalize World.setRow _ (w.heap.size + 1) _ = t5 at *
  refine sq_psk [(2, .bool false)] ?_
  refine sq_done ?_
  refine ‹∀ a w, Code.wp _ Code.ret _ a w → _› _ _ ?_
  refine wp_ret ?_
  try refine wk_block ?_
  try refine wk_then ?_
  exact bodyPost_ret (res_ct (C := tqT (false, noP, noP)) Tryz.underlying27 rfl Tryz.infoPq (HG.out.at 1 rfl) Tryz.results23 _ (by kernel_rfl) (v := .bool false) (by kernel_rfl)) (by kernel_rfl) ⟨rfl, HG.out.b⟩
 | true =>
 rw [hx] at RX
 rw [Bool.true_and]
 clear hx
 generalize psqB (cube2G id x) (cvPT id) = rb at *
 generalize negPG (prootG (cube2G id x) (cvPT id)) (cvPT id) = ng at *
 generalize prootG (cube2G id x) (cvPT id) = rt at *
 generalize cube2G id x = u at *
 generalize noneP rt = nn at *
 simp only [cvE_eq] at HK
 generalize cvNT id = tn at *
 generalize cvPT id = tp at *
 generalize cvRT id = tr at *
 generalize cvBT id = tb at *
 generalize cvKT id = tk at *
 generalize cvSz id = sz at *
 generalize cvSc id = sc at *
 generalize cvBr id = br at *
 cases rb with
 | false =>
  rw [Bool.false_and, if_neg Bool.false_ne_true]
  have HG := Lib.hid (blks2 w (aggT x) (#[.bool false, .string ⟨#[]⟩, .string ⟨#[]⟩, .string ⟨#[]⟩, .string ⟨#[]⟩]) 25 27)
  go_enter Tryz.func23, Tryz.ntmps23
  go_upto_region 1 with (fail)
  generalize (w.alloc _).alloc _ = w0 at *
  replace HG : Hid (Blks w w0 [(w.heap.size + 1, tqT (false, noP, noP), 27), (w.heap.size, aggT x, 25)]) := HG
  have HS := Lib.hid HG.out.h
  replace HS : Hid (Held w0 [((w.heap.size + 1), tqT (false, noP, noP), 27), (w.heap.size, aggT x, 25)]) := Lib.hid (HG.out.h.pick [0, 1] _ rfl)
  refine wp_region_linek (S := fun w' => Held w' [((w.heap.size + 1), tqT (false, noP, noP), 27), (w.heap.size, aggT x, 25)]) [(true, 0), (false, 1), (true, 2), (true, 3), (true, 4), (false, 5), (false, 6), (true, 7)] HS.out ?_
  refine sq_psk [(0, .int .i64 id)] ?_
  refine sq_ck (some 14) Tryz.func14 (HK.out _) ?_
  rintro e v1 ⟨rfl, bw⟩
  replace HG := Lib.hid (HG.out.on bw)
  clear bw
  refine ⟨_, rfl, (HG.out.h.pick [0, 1] _ rfl), ?_⟩
  refine sq_psk [(2, .tuple #[.agg (cvE (tn, tp, tr, tb, tk, sz, sc, br)), .bool true]), (3, .agg (cvE (tn, tp, tr, tb, tk, sz, sc, br))), (4, .bool true)] ?_
  replace HG := Lib.hid (HG.out.new (cvE (⟨#[]⟩, ⟨#[]⟩, ⟨#[]⟩, ⟨#[]⟩, noP, 0, 0, false)) 35)
  refine sq_allock (some 8) 35 (cvE (⟨#[]⟩, ⟨#[]⟩, ⟨#[]⟩, ⟨#[]⟩, noP, 0, 0, false)) (zero_cv _) (HG.out.h.pick [1, 2] _ rfl) ?_
  generalize v1.alloc _ = u2 at *
  generalize v1.heap.size = g2 at *
  have HN := Lib.hid (HG.out.at 0 rfl)
  replace HG : Hid (Blks w (u2.setRow g2 (cvE (tn, tp, tr, tb, tk, sz, sc, br))) [(g2, cvE (tn, tp, tr, tb, tk, sz, sc, br), 35), ((w.heap.size + 1), tqT (false, noP, noP), 27), (w.heap.size, aggT x, 25)]) := Lib.hid (HG.out.put 0 rfl (cvE (tn, tp, tr, tb, tk, sz, sc, br)))
  refine sq_stk 35 g2 (cvE (tn, tp, tr, tb, tk, sz, sc, br)) HN.out Tryz.infoCv rfl (HG.out.h.pick [1, 2] _ rfl) ?_
  clear HN
  generalize World.setRow _ g2 _ = t3 at *
  refine sq_psk [(7, .bool true)] ?_
  refine sq_fink { tmps := List.toArray (List.append [.int .i64 id, .agg (aggT x), .bool gr, undef, .pointer (some ⟨w.heap.size, 0, none⟩), undef, .pointer (some ⟨(w.heap.size + 1), 0, none⟩), .bool false, .pointer (some ⟨g2, 0, none⟩), .bool true, undef, undef, .tuple #[.agg (cvE (tn, tp, tr, tb, tk, sz, sc, br)), .bool true], .int .i64 id, .tuple #[.agg (cvE (tn, tp, tr, tb, tk, sz, sc, br)), .bool true], .agg (cvE (tn, tp, tr, tb, tk, sz, sc, br)), .bool true, undef, undef, undef, undef, undef, undef, undef, undef, undef, undef, undef, undef, undef, undef, undef, undef, undef, undef, undef, undef, undef, undef, undef] ([undef, undef, undef, undef, undef, undef, undef, undef, undef, undef, undef, undef, undef, undef, undef])), defers := [] } ?_
  refine ‹∀ a w, Code.wp _ _ _ a w → _› _ _ ?_
  go_upto_region 2 with (fail)
  replace HS : Hid (Held t3 [(g2, cvE (tn, tp, tr, tb, tk, sz, sc, br), 35), ((w.heap.size + 1), tqT (false, noP, noP), 27), (w.heap.size, aggT x, 25)]) := Lib.hid (HG.out.h.pick [0, 1, 2] _ rfl)
  refine wp_region_linek (S := fun w' => Held w' [(g2, cvE (tn, tp, tr, tb, tk, sz, sc, br), 35), ((w.heap.size + 1), tqT (false, noP, noP), 27), (w.heap.size, aggT x, 25)]) [(true, 0), (true, 1), (true, 2), (true, 3), (true, 4), (true, 5), (false, 6), (true, 7), (true, 8)] HS.out ?_
  refine SQ.out ?_
  refine g_psk [(0, .bool true), (1, .bool false), (2, .bool false)] ?_
  refine g_ldk (some 20) (ld_mid' (D := aggT x) (k := 0) Tryz.underlying25 rfl Tryz.infoP (.tail _ (.tail _ (.head _))) rfl) ?_
  refine g_psk [(4, .pointer (some ⟨g2, 1, none⟩))] ?_
  refine g_ldk (some 22) (wk_s (.head _) (k := 1) rfl) ?_
  refine g_ck (some 23) Tryz.func30 (RX.out _) ?_
  rintro e v4 ⟨rfl, bw⟩
  replace HG := Lib.hid (HG.out.on bw)
  clear bw
  refine ⟨_, rfl, (HG.out.h.pick [0, 1, 2] _ rfl), ?_⟩
  refine g_psk [(7, .bool false), (8, .bool false)] ?_
  refine g_normk { tmps := List.toArray (List.append [.int .i64 id, .agg (aggT x), .bool gr, undef, .pointer (some ⟨w.heap.size, 0, none⟩), undef, .pointer (some ⟨(w.heap.size + 1), 0, none⟩), .bool false, .pointer (some ⟨g2, 0, none⟩), .bool true, undef, undef, .tuple #[.agg (cvE (tn, tp, tr, tb, tk, sz, sc, br)), .bool true], .int .i64 id, .tuple #[.agg (cvE (tn, tp, tr, tb, tk, sz, sc, br)), .bool true], .agg (cvE (tn, tp, tr, tb, tk, sz, sc, br)), .bool true, .bool true, .bool false, .bool false, .agg (aggT x), .pointer (some ⟨g2, 1, none⟩), .string tp, .bool true, .bool false, .bool false, undef, undef, undef, undef, undef, undef, undef, undef, undef, undef, undef, undef, undef, undef] ([undef, undef, undef, undef, undef, undef, undef, undef, undef, undef, undef, undef, undef, undef, undef])), defers := [] } ?_
  refine g_done ?_
  refine ‹∀ a w, Code.wp _ _ _ a w → _› _ _ ?_
  go_upto_region 4 with (fail)
  replace HS : Hid (Held v4 [(g2, cvE (tn, tp, tr, tb, tk, sz, sc, br), 35), ((w.heap.size + 1), tqT (false, noP, noP), 27), (w.heap.size, aggT x, 25)]) := Lib.hid (HG.out.h.pick [0, 1, 2] _ rfl)
  refine Code.wp_mono (Q := fun e a' w' => e = .normal ∧ ∃ (g5 : Nat), a' = { tmps := List.toArray (List.append [.int .i64 id, .agg (aggT x), .bool gr, undef, .pointer (some ⟨w.heap.size, 0, none⟩), undef, .pointer (some ⟨(w.heap.size + 1), 0, none⟩), .bool false, .pointer (some ⟨g2, 0, none⟩), .bool true, .pointer (some ⟨g5, 0, none⟩), .bool false, .tuple #[.agg (cvE (tn, tp, tr, tb, tk, sz, sc, br)), .bool true], .int .i64 id, .tuple #[.agg (cvE (tn, tp, tr, tb, tk, sz, sc, br)), .bool true], .agg (cvE (tn, tp, tr, tb, tk, sz, sc, br)), .bool true, .bool true, .bool false, .bool false, .agg (aggT x), .pointer (some ⟨g2, 1, none⟩), .string tp, .bool true, .bool false, .bool false, undef, .tuple #[.agg (aggT rt), .bool false], .int .i64 id, .agg (aggT x), .agg (aggT u), .pointer (some ⟨g2, 1, none⟩), .string tp, .tuple #[.agg (aggT rt), .bool false], .agg (aggT rt), .bool false, undef, undef, undef, undef] ([undef, undef, undef, undef, undef, undef, undef, undef, undef, undef, undef, undef, undef, undef, undef])), defers := [] } ∧ Blks w w' [(g5, aggT rt, 25), (g2, cvE (tn, tp, tr, tb, tk, sz, sc, br), 35), ((w.heap.size + 1), tqT (false, noP, noP), 27), (w.heap.size, aggT x, 25)]) ?_ ?_
  rotate_left
  ·refine m_begin (S := fun w' => Held w' [(g2, cvE (tn, tp, tr, tb, tk, sz, sc, br), 35), ((w.heap.size + 1), tqT (false, noP, noP), 27), (w.heap.size, aggT x, 25)]) (by kernel_rfl) 12 (by kernel_rfl) ?_
   replace HG := Lib.hid HG.out.drew
   change wpM _ _ _ _ _ _ _ _ (World.drew _)
   generalize World.drew v4 = v500 at *
   refine m_seqi (f := 8) [(true, 0), (true, 1), (true, 3), (true, 4)] 27 (HG.out.h.pick [0, 1, 2] _ rfl) ?_
   refine sq_psk [(0, .int .i64 id)] ?_
   refine sq_ldk (some 29) (ld_mid' (D := aggT x) (k := 0) Tryz.underlying25 rfl Tryz.infoP (.tail _ (.tail _ (.head _))) rfl) ?_
   refine sq_psk [(3, .pointer (some ⟨g2, 1, none⟩))] ?_
   refine sq_ldk (some 32) (wk_s (.head _) (k := 1) rfl) ?_
   refine sq_done ?_
   refine m_maskk (M' := 27) ?_
   refine m_waysi (f := 7) [2, 9] ?_
   intro i hi
   rcases (by simpa using hi : i = 2 ∨ i = 9) with rfl | rfl
   ·refine sq_ck (some 30) Tryz.func50 (HU.out _) ?_
    rintro e v501 ⟨rfl, bw⟩
    replace HG := Lib.hid (HG.out.on bw)
    clear bw
    refine ⟨_, rfl, (HG.out.h.pick [0, 1, 2] _ rfl), ?_⟩
    refine sq_done ?_
    refine m_maskk (M' := 31) ?_
    refine m_waysi (f := 6) [5, 9] ?_
    intro i hi
    rcases (by simpa using hi : i = 5 ∨ i = 9) with rfl | rfl
    ·refine sq_ck (some 33) Tryz.func49 (HRt.out _) ?_
     rintro e v502 ⟨rfl, bw⟩
     replace HG := Lib.hid (HG.out.on bw)
     clear bw
     refine ⟨_, rfl, (HG.out.h.pick [0, 1, 2] _ rfl), ?_⟩
     refine sq_done ?_
     refine m_maskk (M' := 63) ?_
     refine m_seqi (f := 3) [(true, 6), (true, 7), (true, 8)] 511 (HG.out.h.pick [0, 1, 2] _ rfl) ?_
     refine sq_psk [(6, .tuple #[.agg (aggT rt), .bool false])] ?_
     refine sq_psk [(7, .agg (aggT rt))] ?_
     refine sq_psk [(8, .bool false)] ?_
     refine sq_done ?_
     refine m_maskk (M' := 511) ?_
     refine m_seqi (f := 2) [(false, 9)] 1023 (HG.out.h.pick [0, 1, 2] _ rfl) ?_
     replace HG := Lib.hid (HG.out.new (aggT noP) 25)
     refine sq_allock (some 10) 25 (aggT noP) (zero_pr _) (HG.out.h.pick [1, 2, 3] _ rfl) ?_
     generalize v502.alloc _ = u503 at *
     generalize v502.heap.size = g5 at *
     refine sq_done ?_
     refine m_maskk (M' := 1023) ?_
     refine m_seqi (f := 1) [(false, 10)] 2047 (HG.out.h.pick [1, 2, 3] _ rfl) ?_
     have HN := Lib.hid (HG.out.at 0 rfl)
     replace HG : Hid (Blks w (u503.setRow g5 (aggT rt)) [(g5, aggT rt, 25), (g2, cvE (tn, tp, tr, tb, tk, sz, sc, br), 35), ((w.heap.size + 1), tqT (false, noP, noP), 27), (w.heap.size, aggT x, 25)]) := Lib.hid (HG.out.put 0 rfl (aggT rt))
     refine sq_stk 25 g5 (aggT rt) HN.out Tryz.infoP rfl (HG.out.h.pick [1, 2, 3] _ rfl) ?_
     clear HN
     generalize World.setRow _ g5 _ = t504 at *
     refine sq_done ?_
     refine m_maskk (M' := 2047) ?_
     refine m_seqi (f := 0) [(true, 11)] 4095 (HG.out.h.pick [1, 2, 3] _ rfl) ?_
     refine sq_psk [(11, .bool false)] ?_
     refine sq_done ?_
     refine m_maskk (M' := 4095) ?_
     refine m_donei { tmps := List.toArray (List.append [.int .i64 id, .agg (aggT x), .bool gr, undef, .pointer (some ⟨w.heap.size, 0, none⟩), undef, .pointer (some ⟨(w.heap.size + 1), 0, none⟩), .bool false, .pointer (some ⟨g2, 0, none⟩), .bool true, .pointer (some ⟨g5, 0, none⟩), .bool false, .tuple #[.agg (cvE (tn, tp, tr, tb, tk, sz, sc, br)), .bool true], .int .i64 id, .tuple #[.agg (cvE (tn, tp, tr, tb, tk, sz, sc, br)), .bool true], .agg (cvE (tn, tp, tr, tb, tk, sz, sc, br)), .bool true, .bool true, .bool false, .bool false, .agg (aggT x), .pointer (some ⟨g2, 1, none⟩), .string tp, .bool true, .bool false, .bool false, undef, .tuple #[.agg (aggT rt), .bool false], .int .i64 id, .agg (aggT x), .agg (aggT u), .pointer (some ⟨g2, 1, none⟩), .string tp, .tuple #[.agg (aggT rt), .bool false], .agg (aggT rt), .bool false, undef, undef, undef, undef] ([undef, undef, undef, undef, undef, undef, undef, undef, undef, undef, undef, undef, undef, undef, undef])), defers := [] } ?_
     exact ⟨rfl, g5, rfl, HG.out.sub [0, 1, 2, 3] _ rfl (by decide)⟩
    ·replace HG := Lib.hid (HG.out.new (aggT noP) 25)
     refine sq_allock (some 10) 25 (aggT noP) (zero_pr _) (HG.out.h.pick [1, 2, 3] _ rfl) ?_
     generalize v501.alloc _ = u502 at *
     generalize v501.heap.size = g5 at *
     refine sq_done ?_
     refine m_maskk (M' := 543) ?_
     refine m_seqi (f := 5) [(false, 5)] 575 (HG.out.h.pick [1, 2, 3] _ rfl) ?_
     refine sq_ck (some 33) Tryz.func49 (HRt.out _) ?_
     rintro e v503 ⟨rfl, bw⟩
     replace HG := Lib.hid (HG.out.on bw)
     clear bw
     refine ⟨_, rfl, (HG.out.h.pick [1, 2, 3] _ rfl), ?_⟩
     refine sq_done ?_
     refine m_maskk (M' := 575) ?_
     refine m_seqi (f := 2) [(true, 6), (true, 7), (true, 8)] 1023 (HG.out.h.pick [1, 2, 3] _ rfl) ?_
     refine sq_psk [(6, .tuple #[.agg (aggT rt), .bool false])] ?_
     refine sq_psk [(7, .agg (aggT rt))] ?_
     refine sq_psk [(8, .bool false)] ?_
     refine sq_done ?_
     refine m_maskk (M' := 1023) ?_
     refine m_seqi (f := 1) [(false, 10)] 2047 (HG.out.h.pick [1, 2, 3] _ rfl) ?_
     have HN := Lib.hid (HG.out.at 0 rfl)
     replace HG : Hid (Blks w (v503.setRow g5 (aggT rt)) [(g5, aggT rt, 25), (g2, cvE (tn, tp, tr, tb, tk, sz, sc, br), 35), ((w.heap.size + 1), tqT (false, noP, noP), 27), (w.heap.size, aggT x, 25)]) := Lib.hid (HG.out.put 0 rfl (aggT rt))
     refine sq_stk 25 g5 (aggT rt) HN.out Tryz.infoP rfl (HG.out.h.pick [1, 2, 3] _ rfl) ?_
     clear HN
     generalize World.setRow _ g5 _ = t504 at *
     refine sq_done ?_
     refine m_maskk (M' := 2047) ?_
     refine m_seqi (f := 0) [(true, 11)] 4095 (HG.out.h.pick [1, 2, 3] _ rfl) ?_
     refine sq_psk [(11, .bool false)] ?_
     refine sq_done ?_
     refine m_maskk (M' := 4095) ?_
     refine m_donei { tmps := List.toArray (List.append [.int .i64 id, .agg (aggT x), .bool gr, undef, .pointer (some ⟨w.heap.size, 0, none⟩), undef, .pointer (some ⟨(w.heap.size + 1), 0, none⟩), .bool false, .pointer (some ⟨g2, 0, none⟩), .bool true, .pointer (some ⟨g5, 0, none⟩), .bool false, .tuple #[.agg (cvE (tn, tp, tr, tb, tk, sz, sc, br)), .bool true], .int .i64 id, .tuple #[.agg (cvE (tn, tp, tr, tb, tk, sz, sc, br)), .bool true], .agg (cvE (tn, tp, tr, tb, tk, sz, sc, br)), .bool true, .bool true, .bool false, .bool false, .agg (aggT x), .pointer (some ⟨g2, 1, none⟩), .string tp, .bool true, .bool false, .bool false, undef, .tuple #[.agg (aggT rt), .bool false], .int .i64 id, .agg (aggT x), .agg (aggT u), .pointer (some ⟨g2, 1, none⟩), .string tp, .tuple #[.agg (aggT rt), .bool false], .agg (aggT rt), .bool false, undef, undef, undef, undef] ([undef, undef, undef, undef, undef, undef, undef, undef, undef, undef, undef, undef, undef, undef, undef])), defers := [] } ?_
     exact ⟨rfl, g5, rfl, HG.out.sub [0, 1, 2, 3] _ rfl (by decide)⟩
   ·replace HG := Lib.hid (HG.out.new (aggT noP) 25)
    refine sq_allock (some 10) 25 (aggT noP) (zero_pr _) (HG.out.h.pick [1, 2, 3] _ rfl) ?_
    generalize v500.alloc _ = u501 at *
    generalize v500.heap.size = g5 at *
    refine sq_done ?_
    refine m_maskk (M' := 539) ?_
    refine m_seqi (f := 6) [(false, 2)] 543 (HG.out.h.pick [1, 2, 3] _ rfl) ?_
    refine sq_ck (some 30) Tryz.func50 (HU.out _) ?_
    rintro e v502 ⟨rfl, bw⟩
    replace HG := Lib.hid (HG.out.on bw)
    clear bw
    refine ⟨_, rfl, (HG.out.h.pick [1, 2, 3] _ rfl), ?_⟩
    refine sq_done ?_
    refine m_maskk (M' := 543) ?_
    refine m_seqi (f := 5) [(false, 5)] 575 (HG.out.h.pick [1, 2, 3] _ rfl) ?_
    refine sq_ck (some 33) Tryz.func49 (HRt.out _) ?_
    rintro e v503 ⟨rfl, bw⟩
    replace HG := Lib.hid (HG.out.on bw)
    clear bw
    refine ⟨_, rfl, (HG.out.h.pick [1, 2, 3] _ rfl), ?_⟩
    refine sq_done ?_
    refine m_maskk (M' := 575) ?_
    refine m_seqi (f := 2) [(true, 6), (true, 7), (true, 8)] 1023 (HG.out.h.pick [1, 2, 3] _ rfl) ?_
    refine sq_psk [(6, .tuple #[.agg (aggT rt), .bool false])] ?_
    refine sq_psk [(7, .agg (aggT rt))] ?_
    refine sq_psk [(8, .bool false)] ?_
    refine sq_done ?_
    refine m_maskk (M' := 1023) ?_
    refine m_seqi (f := 1) [(false, 10)] 2047 (HG.out.h.pick [1, 2, 3] _ rfl) ?_
    have HN := Lib.hid (HG.out.at 0 rfl)
    replace HG : Hid (Blks w (v503.setRow g5 (aggT rt)) [(g5, aggT rt, 25), (g2, cvE (tn, tp, tr, tb, tk, sz, sc, br), 35), ((w.heap.size + 1), tqT (false, noP, noP), 27), (w.heap.size, aggT x, 25)]) := Lib.hid (HG.out.put 0 rfl (aggT rt))
    refine sq_stk 25 g5 (aggT rt) HN.out Tryz.infoP rfl (HG.out.h.pick [1, 2, 3] _ rfl) ?_
    clear HN
    generalize World.setRow _ g5 _ = t504 at *
    refine sq_done ?_
    refine m_maskk (M' := 2047) ?_
    refine m_seqi (f := 0) [(true, 11)] 4095 (HG.out.h.pick [1, 2, 3] _ rfl) ?_
    refine sq_psk [(11, .bool false)] ?_
    refine sq_done ?_
    refine m_maskk (M' := 4095) ?_
    refine m_donei { tmps := List.toArray (List.append [.int .i64 id, .agg (aggT x), .bool gr, undef, .pointer (some ⟨w.heap.size, 0, none⟩), undef, .pointer (some ⟨(w.heap.size + 1), 0, none⟩), .bool false, .pointer (some ⟨g2, 0, none⟩), .bool true, .pointer (some ⟨g5, 0, none⟩), .bool false, .tuple #[.agg (cvE (tn, tp, tr, tb, tk, sz, sc, br)), .bool true], .int .i64 id, .tuple #[.agg (cvE (tn, tp, tr, tb, tk, sz, sc, br)), .bool true], .agg (cvE (tn, tp, tr, tb, tk, sz, sc, br)), .bool true, .bool true, .bool false, .bool false, .agg (aggT x), .pointer (some ⟨g2, 1, none⟩), .string tp, .bool true, .bool false, .bool false, undef, .tuple #[.agg (aggT rt), .bool false], .int .i64 id, .agg (aggT x), .agg (aggT u), .pointer (some ⟨g2, 1, none⟩), .string tp, .tuple #[.agg (aggT rt), .bool false], .agg (aggT rt), .bool false, undef, undef, undef, undef] ([undef, undef, undef, undef, undef, undef, undef, undef, undef, undef, undef, undef, undef, undef, undef])), defers := [] } ?_
    exact ⟨rfl, g5, rfl, HG.out.sub [0, 1, 2, 3] _ rfl (by decide)⟩
  rintro e a t5 ⟨rfl, g5, rfl, hG⟩
  replace HG := Lib.hid hG
  clear hG
  refine ‹∀ a w, Code.wp _ _ _ a w → _› _ _ ?_
  go_upto_region 5 with (fail)
  replace HS : Hid (Held t5 [(g5, aggT rt, 25), (g2, cvE (tn, tp, tr, tb, tk, sz, sc, br), 35), ((w.heap.size + 1), tqT (false, noP, noP), 27), (w.heap.size, aggT x, 25)]) := Lib.hid (HG.out.h.pick [0, 1, 2, 3] _ rfl)
  refine wp_region_linek (S := fun w' => Held w' [(g5, aggT rt, 25), (g2, cvE (tn, tp, tr, tb, tk, sz, sc, br), 35), ((w.heap.size + 1), tqT (false, noP, noP), 27), (w.heap.size, aggT x, 25)]) [(true, 0), (true, 1), (true, 2), (true, 3), (true, 4), (true, 5), (true, 6), (true, 7), (true, 8), (true, 9)] HS.out ?_
  refine SQ.out ?_
  refine g_psk [(0, .bool false), (1, .bool true), (2, .bool true)] ?_
  refine g_nok [3, 4, 5, 6, 7, 8] ?_
  refine g_psk [(9, .bool true)] ?_
  refine g_normk { tmps := List.toArray (List.append [.int .i64 id, .agg (aggT x), .bool gr, undef, .pointer (some ⟨w.heap.size, 0, none⟩), undef, .pointer (some ⟨(w.heap.size + 1), 0, none⟩), .bool false, .pointer (some ⟨g2, 0, none⟩), .bool true, .pointer (some ⟨g5, 0, none⟩), .bool false, .tuple #[.agg (cvE (tn, tp, tr, tb, tk, sz, sc, br)), .bool true], .int .i64 id, .tuple #[.agg (cvE (tn, tp, tr, tb, tk, sz, sc, br)), .bool true], .agg (cvE (tn, tp, tr, tb, tk, sz, sc, br)), .bool true, .bool true, .bool false, .bool false, .agg (aggT x), .pointer (some ⟨g2, 1, none⟩), .string tp, .bool true, .bool false, .bool false, undef, .tuple #[.agg (aggT rt), .bool false], .int .i64 id, .agg (aggT x), .agg (aggT u), .pointer (some ⟨g2, 1, none⟩), .string tp, .tuple #[.agg (aggT rt), .bool false], .agg (aggT rt), .bool false, .bool false, .bool true, .bool true, undef] ([undef, undef, undef, undef, undef, .bool true, undef, undef, undef, undef, undef, undef, undef, undef, undef])), defers := [] } ?_
  refine g_done ?_
  refine ‹∀ a w, Code.wp _ _ _ a w → _› _ _ ?_
  go_upto_region 6 with (fail)
  replace HS : Hid (Held t5 [(g5, aggT rt, 25), (g2, cvE (tn, tp, tr, tb, tk, sz, sc, br), 35), (w.heap.size, aggT x, 25)]) := Lib.hid (HG.out.h.pick [0, 1, 3] _ rfl)
  refine wp_region_linek (S := fun w' => Held w' [(g5, aggT rt, 25), (g2, cvE (tn, tp, tr, tb, tk, sz, sc, br), 35), (w.heap.size, aggT x, 25)]) [(true, 0), (false, 1), (true, 2)] HS.out ?_
  refine sq_pure (some 46) (.agg (tqT (false, noP, noP))) (by kernel_rfl) (by kernel_rfl) (held_build 27 #[] (by kernel_rfl) _ (by kernel_rfl) _ built_pq0) ?_
  have HN := Lib.hid (HG.out.at 2 rfl)
  replace HG : Hid (Blks w (t5.setRow (w.heap.size + 1) (tqT (false, noP, noP))) [(g5, aggT rt, 25), (g2, cvE (tn, tp, tr, tb, tk, sz, sc, br), 35), ((w.heap.size + 1), tqT (false, noP, noP), 27), (w.heap.size, aggT x, 25)]) := Lib.hid (HG.out.put 2 rfl (tqT (false, noP, noP)))
  refine sq_stk 27 (w.heap.size + 1) (tqT (false, noP, noP)) HN.out Tryz.infoPq rfl (HG.out.h.pick [0, 1, 3] _ rfl) ?_
  clear HN
  generalize World.setRow _ (w.heap.size + 1) _ = t6 at *
  refine sq_psk [(2, .bool false)] ?_
  refine sq_done ?_
  refine ‹∀ a w, Code.wp _ Code.ret _ a w → _› _ _ ?_
  refine wp_ret ?_
  try refine wk_block ?_
  try refine wk_then ?_
  exact bodyPost_ret (res_ct (C := tqT (false, noP, noP)) Tryz.underlying27 rfl Tryz.infoPq (HG.out.at 2 rfl) Tryz.results23 _ (by kernel_rfl) (v := .bool false) (by kernel_rfl)) (by kernel_rfl) ⟨rfl, HG.out.b⟩
 | true =>
 rw [Bool.true_and]
 cases gr with
 | false =>
  rw [Bool.false_and, if_neg Bool.false_ne_true]
  simp only [Bool.not_false, if_true]
  have HG := Lib.hid (blks2 w (aggT x) (#[.bool false, .string ⟨#[]⟩, .string ⟨#[]⟩, .string ⟨#[]⟩, .string ⟨#[]⟩]) 25 27)
  go_enter Tryz.func23, Tryz.ntmps23
  go_upto_region 1 with (fail)
  generalize (w.alloc _).alloc _ = w0 at *
  replace HG : Hid (Blks w w0 [(w.heap.size + 1, tqT (false, noP, noP), 27), (w.heap.size, aggT x, 25)]) := HG
  have HS := Lib.hid HG.out.h
  replace HS : Hid (Held w0 [((w.heap.size + 1), tqT (false, noP, noP), 27), (w.heap.size, aggT x, 25)]) := Lib.hid (HG.out.h.pick [0, 1] _ rfl)
  refine wp_region_linek (S := fun w' => Held w' [((w.heap.size + 1), tqT (false, noP, noP), 27), (w.heap.size, aggT x, 25)]) [(true, 0), (false, 1), (true, 2), (true, 3), (true, 4), (false, 5), (false, 6), (true, 7)] HS.out ?_
  refine sq_psk [(0, .int .i64 id)] ?_
  refine sq_ck (some 14) Tryz.func14 (HK.out _) ?_
  rintro e v1 ⟨rfl, bw⟩
  replace HG := Lib.hid (HG.out.on bw)
  clear bw
  refine ⟨_, rfl, (HG.out.h.pick [0, 1] _ rfl), ?_⟩
  refine sq_psk [(2, .tuple #[.agg (cvE (tn, tp, tr, tb, tk, sz, sc, br)), .bool true]), (3, .agg (cvE (tn, tp, tr, tb, tk, sz, sc, br))), (4, .bool true)] ?_
  replace HG := Lib.hid (HG.out.new (cvE (⟨#[]⟩, ⟨#[]⟩, ⟨#[]⟩, ⟨#[]⟩, noP, 0, 0, false)) 35)
  refine sq_allock (some 8) 35 (cvE (⟨#[]⟩, ⟨#[]⟩, ⟨#[]⟩, ⟨#[]⟩, noP, 0, 0, false)) (zero_cv _) (HG.out.h.pick [1, 2] _ rfl) ?_
  generalize v1.alloc _ = u2 at *
  generalize v1.heap.size = g2 at *
  have HN := Lib.hid (HG.out.at 0 rfl)
  replace HG : Hid (Blks w (u2.setRow g2 (cvE (tn, tp, tr, tb, tk, sz, sc, br))) [(g2, cvE (tn, tp, tr, tb, tk, sz, sc, br), 35), ((w.heap.size + 1), tqT (false, noP, noP), 27), (w.heap.size, aggT x, 25)]) := Lib.hid (HG.out.put 0 rfl (cvE (tn, tp, tr, tb, tk, sz, sc, br)))
  refine sq_stk 35 g2 (cvE (tn, tp, tr, tb, tk, sz, sc, br)) HN.out Tryz.infoCv rfl (HG.out.h.pick [1, 2] _ rfl) ?_
  clear HN
  generalize World.setRow _ g2 _ = t3 at *
  refine sq_psk [(7, .bool true)] ?_
  refine sq_fink { tmps := List.toArray (List.append [.int .i64 id, .agg (aggT x), .bool false, undef, .pointer (some ⟨w.heap.size, 0, none⟩), undef, .pointer (some ⟨(w.heap.size + 1), 0, none⟩), .bool false, .pointer (some ⟨g2, 0, none⟩), .bool true, undef, undef, .tuple #[.agg (cvE (tn, tp, tr, tb, tk, sz, sc, br)), .bool true], .int .i64 id, .tuple #[.agg (cvE (tn, tp, tr, tb, tk, sz, sc, br)), .bool true], .agg (cvE (tn, tp, tr, tb, tk, sz, sc, br)), .bool true, undef, undef, undef, undef, undef, undef, undef, undef, undef, undef, undef, undef, undef, undef, undef, undef, undef, undef, undef, undef, undef, undef, undef] ([undef, undef, undef, undef, undef, undef, undef, undef, undef, undef, undef, undef, undef, undef, undef])), defers := [] } ?_
  refine ‹∀ a w, Code.wp _ _ _ a w → _› _ _ ?_
  go_upto_region 2 with (fail)
  replace HS : Hid (Held t3 [(g2, cvE (tn, tp, tr, tb, tk, sz, sc, br), 35), ((w.heap.size + 1), tqT (false, noP, noP), 27), (w.heap.size, aggT x, 25)]) := Lib.hid (HG.out.h.pick [0, 1, 2] _ rfl)
  refine wp_region_linek (S := fun w' => Held w' [(g2, cvE (tn, tp, tr, tb, tk, sz, sc, br), 35), ((w.heap.size + 1), tqT (false, noP, noP), 27), (w.heap.size, aggT x, 25)]) [(true, 0), (true, 1), (true, 2), (true, 3), (true, 4), (true, 5), (false, 6), (true, 7), (true, 8)] HS.out ?_
  refine SQ.out ?_
  refine g_psk [(0, .bool true), (1, .bool false), (2, .bool false)] ?_
  refine g_ldk (some 20) (ld_mid' (D := aggT x) (k := 0) Tryz.underlying25 rfl Tryz.infoP (.tail _ (.tail _ (.head _))) rfl) ?_
  refine g_psk [(4, .pointer (some ⟨g2, 1, none⟩))] ?_
  refine g_ldk (some 22) (wk_s (.head _) (k := 1) rfl) ?_
  refine g_ck (some 23) Tryz.func30 (RX.out _) ?_
  rintro e v4 ⟨rfl, bw⟩
  replace HG := Lib.hid (HG.out.on bw)
  clear bw
  refine ⟨_, rfl, (HG.out.h.pick [0, 1, 2] _ rfl), ?_⟩
  refine g_psk [(7, .bool false), (8, .bool false)] ?_
  refine g_normk { tmps := List.toArray (List.append [.int .i64 id, .agg (aggT x), .bool false, undef, .pointer (some ⟨w.heap.size, 0, none⟩), undef, .pointer (some ⟨(w.heap.size + 1), 0, none⟩), .bool false, .pointer (some ⟨g2, 0, none⟩), .bool true, undef, undef, .tuple #[.agg (cvE (tn, tp, tr, tb, tk, sz, sc, br)), .bool true], .int .i64 id, .tuple #[.agg (cvE (tn, tp, tr, tb, tk, sz, sc, br)), .bool true], .agg (cvE (tn, tp, tr, tb, tk, sz, sc, br)), .bool true, .bool true, .bool false, .bool false, .agg (aggT x), .pointer (some ⟨g2, 1, none⟩), .string tp, .bool true, .bool false, .bool false, undef, undef, undef, undef, undef, undef, undef, undef, undef, undef, undef, undef, undef, undef] ([undef, undef, undef, undef, undef, undef, undef, undef, undef, undef, undef, undef, undef, undef, undef])), defers := [] } ?_
  refine g_done ?_
  refine ‹∀ a w, Code.wp _ _ _ a w → _› _ _ ?_
  go_upto_region 4 with (fail)
  replace HS : Hid (Held v4 [(g2, cvE (tn, tp, tr, tb, tk, sz, sc, br), 35), ((w.heap.size + 1), tqT (false, noP, noP), 27), (w.heap.size, aggT x, 25)]) := Lib.hid (HG.out.h.pick [0, 1, 2] _ rfl)
  refine Code.wp_mono (Q := fun e a' w' => e = .normal ∧ ∃ (g5 : Nat), a' = { tmps := List.toArray (List.append [.int .i64 id, .agg (aggT x), .bool false, undef, .pointer (some ⟨w.heap.size, 0, none⟩), undef, .pointer (some ⟨(w.heap.size + 1), 0, none⟩), .bool false, .pointer (some ⟨g2, 0, none⟩), .bool true, .pointer (some ⟨g5, 0, none⟩), .bool true, .tuple #[.agg (cvE (tn, tp, tr, tb, tk, sz, sc, br)), .bool true], .int .i64 id, .tuple #[.agg (cvE (tn, tp, tr, tb, tk, sz, sc, br)), .bool true], .agg (cvE (tn, tp, tr, tb, tk, sz, sc, br)), .bool true, .bool true, .bool false, .bool false, .agg (aggT x), .pointer (some ⟨g2, 1, none⟩), .string tp, .bool true, .bool false, .bool false, undef, .tuple #[.agg (aggT rt), .bool true], .int .i64 id, .agg (aggT x), .agg (aggT u), .pointer (some ⟨g2, 1, none⟩), .string tp, .tuple #[.agg (aggT rt), .bool true], .agg (aggT rt), .bool true, undef, undef, undef, undef] ([undef, undef, undef, undef, undef, undef, undef, undef, undef, undef, undef, undef, undef, undef, undef])), defers := [] } ∧ Blks w w' [(g5, aggT rt, 25), (g2, cvE (tn, tp, tr, tb, tk, sz, sc, br), 35), ((w.heap.size + 1), tqT (false, noP, noP), 27), (w.heap.size, aggT x, 25)]) ?_ ?_
  rotate_left
  ·refine m_begin (S := fun w' => Held w' [(g2, cvE (tn, tp, tr, tb, tk, sz, sc, br), 35), ((w.heap.size + 1), tqT (false, noP, noP), 27), (w.heap.size, aggT x, 25)]) (by kernel_rfl) 12 (by kernel_rfl) ?_
   replace HG := Lib.hid HG.out.drew
   change wpM _ _ _ _ _ _ _ _ (World.drew _)
   generalize World.drew v4 = v500 at *
   refine m_seqi (f := 8) [(true, 0), (true, 1), (true, 3), (true, 4)] 27 (HG.out.h.pick [0, 1, 2] _ rfl) ?_
   refine sq_psk [(0, .int .i64 id)] ?_
   refine sq_ldk (some 29) (ld_mid' (D := aggT x) (k := 0) Tryz.underlying25 rfl Tryz.infoP (.tail _ (.tail _ (.head _))) rfl) ?_
   refine sq_psk [(3, .pointer (some ⟨g2, 1, none⟩))] ?_
   refine sq_ldk (some 32) (wk_s (.head _) (k := 1) rfl) ?_
   refine sq_done ?_
   refine m_maskk (M' := 27) ?_
   refine m_waysi (f := 7) [2, 9] ?_
   intro i hi
   rcases (by simpa using hi : i = 2 ∨ i = 9) with rfl | rfl
   ·refine sq_ck (some 30) Tryz.func50 (HU.out _) ?_
    rintro e v501 ⟨rfl, bw⟩
    replace HG := Lib.hid (HG.out.on bw)
    clear bw
    refine ⟨_, rfl, (HG.out.h.pick [0, 1, 2] _ rfl), ?_⟩
    refine sq_done ?_
    refine m_maskk (M' := 31) ?_
    refine m_waysi (f := 6) [5, 9] ?_
    intro i hi
    rcases (by simpa using hi : i = 5 ∨ i = 9) with rfl | rfl
    ·refine sq_ck (some 33) Tryz.func49 (HRt.out _) ?_
     rintro e v502 ⟨rfl, bw⟩
     replace HG := Lib.hid (HG.out.on bw)
     clear bw
     refine ⟨_, rfl, (HG.out.h.pick [0, 1, 2] _ rfl), ?_⟩
     refine sq_done ?_
     refine m_maskk (M' := 63) ?_
     refine m_seqi (f := 3) [(true, 6), (true, 7), (true, 8)] 511 (HG.out.h.pick [0, 1, 2] _ rfl) ?_
     refine sq_psk [(6, .tuple #[.agg (aggT rt), .bool true])] ?_
     refine sq_psk [(7, .agg (aggT rt))] ?_
     refine sq_psk [(8, .bool true)] ?_
     refine sq_done ?_
     refine m_maskk (M' := 511) ?_
     refine m_seqi (f := 2) [(false, 9)] 1023 (HG.out.h.pick [0, 1, 2] _ rfl) ?_
     replace HG := Lib.hid (HG.out.new (aggT noP) 25)
     refine sq_allock (some 10) 25 (aggT noP) (zero_pr _) (HG.out.h.pick [1, 2, 3] _ rfl) ?_
     generalize v502.alloc _ = u503 at *
     generalize v502.heap.size = g5 at *
     refine sq_done ?_
     refine m_maskk (M' := 1023) ?_
     refine m_seqi (f := 1) [(false, 10)] 2047 (HG.out.h.pick [1, 2, 3] _ rfl) ?_
     have HN := Lib.hid (HG.out.at 0 rfl)
     replace HG : Hid (Blks w (u503.setRow g5 (aggT rt)) [(g5, aggT rt, 25), (g2, cvE (tn, tp, tr, tb, tk, sz, sc, br), 35), ((w.heap.size + 1), tqT (false, noP, noP), 27), (w.heap.size, aggT x, 25)]) := Lib.hid (HG.out.put 0 rfl (aggT rt))
     refine sq_stk 25 g5 (aggT rt) HN.out Tryz.infoP rfl (HG.out.h.pick [1, 2, 3] _ rfl) ?_
     clear HN
     generalize World.setRow _ g5 _ = t504 at *
     refine sq_done ?_
     refine m_maskk (M' := 2047) ?_
     refine m_seqi (f := 0) [(true, 11)] 4095 (HG.out.h.pick [1, 2, 3] _ rfl) ?_
     refine sq_psk [(11, .bool true)] ?_
     refine sq_done ?_
     refine m_maskk (M' := 4095) ?_
     refine m_donei { tmps := List.toArray (List.append [.int .i64 id, .agg (aggT x), .bool false, undef, .pointer (some ⟨w.heap.size, 0, none⟩), undef, .pointer (some ⟨(w.heap.size + 1), 0, none⟩), .bool false, .pointer (some ⟨g2, 0, none⟩), .bool true, .pointer (some ⟨g5, 0, none⟩), .bool true, .tuple #[.agg (cvE (tn, tp, tr, tb, tk, sz, sc, br)), .bool true], .int .i64 id, .tuple #[.agg (cvE (tn, tp, tr, tb, tk, sz, sc, br)), .bool true], .agg (cvE (tn, tp, tr, tb, tk, sz, sc, br)), .bool true, .bool true, .bool false, .bool false, .agg (aggT x), .pointer (some ⟨g2, 1, none⟩), .string tp, .bool true, .bool false, .bool false, undef, .tuple #[.agg (aggT rt), .bool true], .int .i64 id, .agg (aggT x), .agg (aggT u), .pointer (some ⟨g2, 1, none⟩), .string tp, .tuple #[.agg (aggT rt), .bool true], .agg (aggT rt), .bool true, undef, undef, undef, undef] ([undef, undef, undef, undef, undef, undef, undef, undef, undef, undef, undef, undef, undef, undef, undef])), defers := [] } ?_
     exact ⟨rfl, g5, rfl, HG.out.sub [0, 1, 2, 3] _ rfl (by decide)⟩
    ·replace HG := Lib.hid (HG.out.new (aggT noP) 25)
     refine sq_allock (some 10) 25 (aggT noP) (zero_pr _) (HG.out.h.pick [1, 2, 3] _ rfl) ?_
     generalize v501.alloc _ = u502 at *
     generalize v501.heap.size = g5 at *
     refine sq_done ?_
     refine m_maskk (M' := 543) ?_
     refine m_seqi (f := 5) [(false, 5)] 575 (HG.out.h.pick [1, 2, 3] _ rfl) ?_
     refine sq_ck (some 33) Tryz.func49 (HRt.out _) ?_
     rintro e v503 ⟨rfl, bw⟩
     replace HG := Lib.hid (HG.out.on bw)
     clear bw
     refine ⟨_, rfl, (HG.out.h.pick [1, 2, 3] _ rfl), ?_⟩
     refine sq_done ?_
     refine m_maskk (M' := 575) ?_
     refine m_seqi (f := 2) [(true, 6), (true, 7), (true, 8)] 1023 (HG.out.h.pick [1, 2, 3] _ rfl) ?_
     refine sq_psk [(6, .tuple #[.agg (aggT rt), .bool true])] ?_
     refine sq_psk [(7, .agg (aggT rt))] ?_
     refine sq_psk [(8, .bool true)] ?_
     refine sq_done ?_
     refine m_maskk (M' := 1023) ?_
     refine m_seqi (f := 1) [(false, 10)] 2047 (HG.out.h.pick [1, 2, 3] _ rfl) ?_
     have HN := Lib.hid (HG.out.at 0 rfl)
     replace HG : Hid (Blks w (v503.setRow g5 (aggT rt)) [(g5, aggT rt, 25), (g2, cvE (tn, tp, tr, tb, tk, sz, sc, br), 35), ((w.heap.size + 1), tqT (false, noP, noP), 27), (w.heap.size, aggT x, 25)]) := Lib.hid (HG.out.put 0 rfl (aggT rt))
     refine sq_stk 25 g5 (aggT rt) HN.out Tryz.infoP rfl (HG.out.h.pick [1, 2, 3] _ rfl) ?_
     clear HN
     generalize World.setRow _ g5 _ = t504 at *
     refine sq_done ?_
     refine m_maskk (M' := 2047) ?_
     refine m_seqi (f := 0) [(true, 11)] 4095 (HG.out.h.pick [1, 2, 3] _ rfl) ?_
     refine sq_psk [(11, .bool true)] ?_
     refine sq_done ?_
     refine m_maskk (M' := 4095) ?_
     refine m_donei { tmps := List.toArray (List.append [.int .i64 id, .agg (aggT x), .bool false, undef, .pointer (some ⟨w.heap.size, 0, none⟩), undef, .pointer (some ⟨(w.heap.size + 1), 0, none⟩), .bool false, .pointer (some ⟨g2, 0, none⟩), .bool true, .pointer (some ⟨g5, 0, none⟩), .bool true, .tuple #[.agg (cvE (tn, tp, tr, tb, tk, sz, sc, br)), .bool true], .int .i64 id, .tuple #[.agg (cvE (tn, tp, tr, tb, tk, sz, sc, br)), .bool true], .agg (cvE (tn, tp, tr, tb, tk, sz, sc, br)), .bool true, .bool true, .bool false, .bool false, .agg (aggT x), .pointer (some ⟨g2, 1, none⟩), .string tp, .bool true, .bool false, .bool false, undef, .tuple #[.agg (aggT rt), .bool true], .int .i64 id, .agg (aggT x), .agg (aggT u), .pointer (some ⟨g2, 1, none⟩), .string tp, .tuple #[.agg (aggT rt), .bool true], .agg (aggT rt), .bool true, undef, undef, undef, undef] ([undef, undef, undef, undef, undef, undef, undef, undef, undef, undef, undef, undef, undef, undef, undef])), defers := [] } ?_
     exact ⟨rfl, g5, rfl, HG.out.sub [0, 1, 2, 3] _ rfl (by decide)⟩
   ·replace HG := Lib.hid (HG.out.new (aggT noP) 25)
    refine sq_allock (some 10) 25 (aggT noP) (zero_pr _) (HG.out.h.pick [1, 2, 3] _ rfl) ?_
    generalize v500.alloc _ = u501 at *
    generalize v500.heap.size = g5 at *
    refine sq_done ?_
    refine m_maskk (M' := 539) ?_
    refine m_seqi (f := 6) [(false, 2)] 543 (HG.out.h.pick [1, 2, 3] _ rfl) ?_
    refine sq_ck (some 30) Tryz.func50 (HU.out _) ?_
    rintro e v502 ⟨rfl, bw⟩
    replace HG := Lib.hid (HG.out.on bw)
    clear bw
    refine ⟨_, rfl, (HG.out.h.pick [1, 2, 3] _ rfl), ?_⟩
    refine sq_done ?_
    refine m_maskk (M' := 543) ?_
    refine m_seqi (f := 5) [(false, 5)] 575 (HG.out.h.pick [1, 2, 3] _ rfl) ?_
    refine sq_ck (some 33) Tryz.func49 (HRt.out _) ?_
    rintro e v503 ⟨rfl, bw⟩
    replace HG := Lib.hid (HG.out.on bw)
    clear bw
    refine ⟨_, rfl, (HG.out.h.pick [1, 2, 3] _ rfl), ?_⟩
    refine sq_done ?_
    refine m_maskk (M' := 575) ?_
    refine m_seqi (f := 2) [(true, 6), (true, 7), (true, 8)] 1023 (HG.out.h.pick [1, 2, 3] _ rfl) ?_
    refine sq_psk [(6, .tuple #[.agg (aggT rt), .bool true])] ?_
    refine sq_psk [(7, .agg (aggT rt))] ?_
    refine sq_psk [(8, .bool true)] ?_
    refine sq_done ?_
    refine m_maskk (M' := 1023) ?_
    refine m_seqi (f := 1) [(false, 10)] 2047 (HG.out.h.pick [1, 2, 3] _ rfl) ?_
    have HN := Lib.hid (HG.out.at 0 rfl)
    replace HG : Hid (Blks w (v503.setRow g5 (aggT rt)) [(g5, aggT rt, 25), (g2, cvE (tn, tp, tr, tb, tk, sz, sc, br), 35), ((w.heap.size + 1), tqT (false, noP, noP), 27), (w.heap.size, aggT x, 25)]) := Lib.hid (HG.out.put 0 rfl (aggT rt))
    refine sq_stk 25 g5 (aggT rt) HN.out Tryz.infoP rfl (HG.out.h.pick [1, 2, 3] _ rfl) ?_
    clear HN
    generalize World.setRow _ g5 _ = t504 at *
    refine sq_done ?_
    refine m_maskk (M' := 2047) ?_
    refine m_seqi (f := 0) [(true, 11)] 4095 (HG.out.h.pick [1, 2, 3] _ rfl) ?_
    refine sq_psk [(11, .bool true)] ?_
    refine sq_done ?_
    refine m_maskk (M' := 4095) ?_
    refine m_donei { tmps := List.toArray (List.append [.int .i64 id, .agg (aggT x), .bool false, undef, .pointer (some ⟨w.heap.size, 0, none⟩), undef, .pointer (some ⟨(w.heap.size + 1), 0, none⟩), .bool false, .pointer (some ⟨g2, 0, none⟩), .bool true, .pointer (some ⟨g5, 0, none⟩), .bool true, .tuple #[.agg (cvE (tn, tp, tr, tb, tk, sz, sc, br)), .bool true], .int .i64 id, .tuple #[.agg (cvE (tn, tp, tr, tb, tk, sz, sc, br)), .bool true], .agg (cvE (tn, tp, tr, tb, tk, sz, sc, br)), .bool true, .bool true, .bool false, .bool false, .agg (aggT x), .pointer (some ⟨g2, 1, none⟩), .string tp, .bool true, .bool false, .bool false, undef, .tuple #[.agg (aggT rt), .bool true], .int .i64 id, .agg (aggT x), .agg (aggT u), .pointer (some ⟨g2, 1, none⟩), .string tp, .tuple #[.agg (aggT rt), .bool true], .agg (aggT rt), .bool true, undef, undef, undef, undef] ([undef, undef, undef, undef, undef, undef, undef, undef, undef, undef, undef, undef, undef, undef, undef])), defers := [] } ?_
    exact ⟨rfl, g5, rfl, HG.out.sub [0, 1, 2, 3] _ rfl (by decide)⟩
  rintro e a t5 ⟨rfl, g5, rfl, hG⟩
  replace HG := Lib.hid hG
  clear hG
  refine ‹∀ a w, Code.wp _ _ _ a w → _› _ _ ?_
  go_upto_region 5 with (fail)
  replace HS : Hid (Held t5 [(g5, aggT rt, 25), (g2, cvE (tn, tp, tr, tb, tk, sz, sc, br), 35), ((w.heap.size + 1), tqT (false, noP, noP), 27), (w.heap.size, aggT x, 25)]) := Lib.hid (HG.out.h.pick [0, 1, 2, 3] _ rfl)
  refine wp_region_linek (S := fun w' => Held w' [(g5, aggT rt, 25), (g2, cvE (tn, tp, tr, tb, tk, sz, sc, br), 35), ((w.heap.size + 1), tqT (false, noP, noP), 27), (w.heap.size, aggT x, 25)]) [(true, 0), (true, 1), (true, 2), (true, 3), (true, 4), (true, 5), (true, 6), (true, 7), (true, 8), (true, 9)] HS.out ?_
  refine SQ.out ?_
  refine g_psk [(0, .bool true), (1, .bool false), (2, .bool false), (3, .bool false), (4, .bool false)] ?_
  refine g_nok [5, 6, 7] ?_
  refine g_psk [(8, .bool false), (9, .bool false)] ?_
  refine g_normk { tmps := List.toArray (List.append [.int .i64 id, .agg (aggT x), .bool false, undef, .pointer (some ⟨w.heap.size, 0, none⟩), undef, .pointer (some ⟨(w.heap.size + 1), 0, none⟩), .bool false, .pointer (some ⟨g2, 0, none⟩), .bool true, .pointer (some ⟨g5, 0, none⟩), .bool true, .tuple #[.agg (cvE (tn, tp, tr, tb, tk, sz, sc, br)), .bool true], .int .i64 id, .tuple #[.agg (cvE (tn, tp, tr, tb, tk, sz, sc, br)), .bool true], .agg (cvE (tn, tp, tr, tb, tk, sz, sc, br)), .bool true, .bool true, .bool false, .bool false, .agg (aggT x), .pointer (some ⟨g2, 1, none⟩), .string tp, .bool true, .bool false, .bool false, undef, .tuple #[.agg (aggT rt), .bool true], .int .i64 id, .agg (aggT x), .agg (aggT u), .pointer (some ⟨g2, 1, none⟩), .string tp, .tuple #[.agg (aggT rt), .bool true], .agg (aggT rt), .bool true, .bool true, .bool false, .bool false, .bool false] ([.bool false, undef, undef, undef, .bool false, .bool false, undef, undef, undef, undef, undef, undef, undef, undef, undef])), defers := [] } ?_
  refine g_done ?_
  refine ‹∀ a w, Code.wp _ _ _ a w → _› _ _ ?_
  go_upto_region 7 with (fail)
  replace HS : Hid (Held t5 [(g5, aggT rt, 25), (g2, cvE (tn, tp, tr, tb, tk, sz, sc, br), 35), ((w.heap.size + 1), tqT (false, noP, noP), 27), (w.heap.size, aggT x, 25)]) := Lib.hid (HG.out.h.pick [0, 1, 2, 3] _ rfl)
  refine wp_region_linek (S := fun w' => Held w' [(g5, aggT rt, 25), (g2, cvE (tn, tp, tr, tb, tk, sz, sc, br), 35), ((w.heap.size + 1), tqT (false, noP, noP), 27), (w.heap.size, aggT x, 25)]) [(true, 0)] HS.out ?_
  refine sq_psk [(0, .bool false)] ?_
  refine sq_fink { tmps := List.toArray (List.append [.int .i64 id, .agg (aggT x), .bool false, undef, .pointer (some ⟨w.heap.size, 0, none⟩), undef, .pointer (some ⟨(w.heap.size + 1), 0, none⟩), .bool false, .pointer (some ⟨g2, 0, none⟩), .bool true, .pointer (some ⟨g5, 0, none⟩), .bool true, .tuple #[.agg (cvE (tn, tp, tr, tb, tk, sz, sc, br)), .bool true], .int .i64 id, .tuple #[.agg (cvE (tn, tp, tr, tb, tk, sz, sc, br)), .bool true], .agg (cvE (tn, tp, tr, tb, tk, sz, sc, br)), .bool true, .bool true, .bool false, .bool false, .agg (aggT x), .pointer (some ⟨g2, 1, none⟩), .string tp, .bool true, .bool false, .bool false, undef, .tuple #[.agg (aggT rt), .bool true], .int .i64 id, .agg (aggT x), .agg (aggT u), .pointer (some ⟨g2, 1, none⟩), .string tp, .tuple #[.agg (aggT rt), .bool true], .agg (aggT rt), .bool true, .bool true, .bool false, .bool false, .bool false] ([.bool false, undef, undef, undef, .bool false, .bool false, undef, .bool false, undef, undef, undef, undef, undef, undef, undef])), defers := [] } ?_
  refine ‹∀ a w, Code.wp _ _ _ a w → _› _ _ ?_
  go_upto_region 9 with (fail)
  replace HS : Hid (Held t5 [(g5, aggT rt, 25), (g2, cvE (tn, tp, tr, tb, tk, sz, sc, br), 35), (w.heap.size, aggT x, 25)]) := Lib.hid (HG.out.h.pick [0, 1, 3] _ rfl)
  refine wp_region_linek (S := fun w' => Held w' [(g5, aggT rt, 25), (g2, cvE (tn, tp, tr, tb, tk, sz, sc, br), 35), (w.heap.size, aggT x, 25)]) [(true, 0), (true, 1), (true, 2), (false, 3), (true, 4)] HS.out ?_
  refine sq_ldk (some 52) (ld_mid' (D := aggT x) (k := 0) Tryz.underlying25 rfl Tryz.infoP (.tail _ (.tail _ (.head _))) rfl) ?_
  refine sq_ldk (some 53) (ld_mid' (D := aggT rt) (k := 0) Tryz.underlying25 rfl Tryz.infoP (.head _) rfl) ?_
  refine sq_pure (some 54) (.agg (tqT (false, x, rt))) (by kernel_rfl) (by kernel_rfl) (held_build 27 #[(1, (.tmp 52)), (2, (.tmp 53))] (by kernel_rfl) _ (by kernel_rfl) _ (built_pq2 _ _)) ?_
  have HN := Lib.hid (HG.out.at 2 rfl)
  replace HG : Hid (Blks w (t5.setRow (w.heap.size + 1) (tqT (false, x, rt))) [(g5, aggT rt, 25), (g2, cvE (tn, tp, tr, tb, tk, sz, sc, br), 35), ((w.heap.size + 1), tqT (false, x, rt), 27), (w.heap.size, aggT x, 25)]) := Lib.hid (HG.out.put 2 rfl (tqT (false, x, rt)))
  refine sq_stk 27 (w.heap.size + 1) (tqT (false, x, rt)) HN.out Tryz.infoPq rfl (HG.out.h.pick [0, 1, 3] _ rfl) ?_
  clear HN
  generalize World.setRow _ (w.heap.size + 1) _ = t6 at *
  refine sq_psk [(4, .bool true)] ?_
  refine sq_done ?_
  refine ‹∀ a w, Code.wp _ Code.ret _ a w → _› _ _ ?_
  refine wp_ret ?_
  try refine wk_block ?_
  try refine wk_then ?_
  exact bodyPost_ret (res_ct (C := tqT (false, x, rt)) Tryz.underlying27 rfl Tryz.infoPq (HG.out.at 2 rfl) Tryz.results23 _ (by kernel_rfl) (v := .bool true) (by kernel_rfl)) (by kernel_rfl) ⟨rfl, HG.out.b⟩
 | true =>
 rw [Bool.true_and, if_pos rfl]
 cases nn with
 | true =>
  simp only [Bool.not_true, if_false, Bool.false_eq_true]
  have HG := Lib.hid (blks2 w (aggT x) (#[.bool false, .string ⟨#[]⟩, .string ⟨#[]⟩, .string ⟨#[]⟩, .string ⟨#[]⟩]) 25 27)
  go_enter Tryz.func23, Tryz.ntmps23
  go_upto_region 1 with (fail)
  generalize (w.alloc _).alloc _ = w0 at *
  replace HG : Hid (Blks w w0 [(w.heap.size + 1, tqT (false, noP, noP), 27), (w.heap.size, aggT x, 25)]) := HG
  have HS := Lib.hid HG.out.h
  replace HS : Hid (Held w0 [((w.heap.size + 1), tqT (false, noP, noP), 27), (w.heap.size, aggT x, 25)]) := Lib.hid (HG.out.h.pick [0, 1] _ rfl)
  refine wp_region_linek (S := fun w' => Held w' [((w.heap.size + 1), tqT (false, noP, noP), 27), (w.heap.size, aggT x, 25)]) [(true, 0), (false, 1), (true, 2), (true, 3), (true, 4), (false, 5), (false, 6), (true, 7)] HS.out ?_
  refine sq_psk [(0, .int .i64 id)] ?_
  refine sq_ck (some 14) Tryz.func14 (HK.out _) ?_
  rintro e v1 ⟨rfl, bw⟩
  replace HG := Lib.hid (HG.out.on bw)
  clear bw
  refine ⟨_, rfl, (HG.out.h.pick [0, 1] _ rfl), ?_⟩
  refine sq_psk [(2, .tuple #[.agg (cvE (tn, tp, tr, tb, tk, sz, sc, br)), .bool true]), (3, .agg (cvE (tn, tp, tr, tb, tk, sz, sc, br))), (4, .bool true)] ?_
  replace HG := Lib.hid (HG.out.new (cvE (⟨#[]⟩, ⟨#[]⟩, ⟨#[]⟩, ⟨#[]⟩, noP, 0, 0, false)) 35)
  refine sq_allock (some 8) 35 (cvE (⟨#[]⟩, ⟨#[]⟩, ⟨#[]⟩, ⟨#[]⟩, noP, 0, 0, false)) (zero_cv _) (HG.out.h.pick [1, 2] _ rfl) ?_
  generalize v1.alloc _ = u2 at *
  generalize v1.heap.size = g2 at *
  have HN := Lib.hid (HG.out.at 0 rfl)
  replace HG : Hid (Blks w (u2.setRow g2 (cvE (tn, tp, tr, tb, tk, sz, sc, br))) [(g2, cvE (tn, tp, tr, tb, tk, sz, sc, br), 35), ((w.heap.size + 1), tqT (false, noP, noP), 27), (w.heap.size, aggT x, 25)]) := Lib.hid (HG.out.put 0 rfl (cvE (tn, tp, tr, tb, tk, sz, sc, br)))
  refine sq_stk 35 g2 (cvE (tn, tp, tr, tb, tk, sz, sc, br)) HN.out Tryz.infoCv rfl (HG.out.h.pick [1, 2] _ rfl) ?_
  clear HN
  generalize World.setRow _ g2 _ = t3 at *
  refine sq_psk [(7, .bool true)] ?_
  refine sq_fink { tmps := List.toArray (List.append [.int .i64 id, .agg (aggT x), .bool true, undef, .pointer (some ⟨w.heap.size, 0, none⟩), undef, .pointer (some ⟨(w.heap.size + 1), 0, none⟩), .bool false, .pointer (some ⟨g2, 0, none⟩), .bool true, undef, undef, .tuple #[.agg (cvE (tn, tp, tr, tb, tk, sz, sc, br)), .bool true], .int .i64 id, .tuple #[.agg (cvE (tn, tp, tr, tb, tk, sz, sc, br)), .bool true], .agg (cvE (tn, tp, tr, tb, tk, sz, sc, br)), .bool true, undef, undef, undef, undef, undef, undef, undef, undef, undef, undef, undef, undef, undef, undef, undef, undef, undef, undef, undef, undef, undef, undef, undef] ([undef, undef, undef, undef, undef, undef, undef, undef, undef, undef, undef, undef, undef, undef, undef])), defers := [] } ?_
  refine ‹∀ a w, Code.wp _ _ _ a w → _› _ _ ?_
  go_upto_region 2 with (fail)
  replace HS : Hid (Held t3 [(g2, cvE (tn, tp, tr, tb, tk, sz, sc, br), 35), ((w.heap.size + 1), tqT (false, noP, noP), 27), (w.heap.size, aggT x, 25)]) := Lib.hid (HG.out.h.pick [0, 1, 2] _ rfl)
  refine wp_region_linek (S := fun w' => Held w' [(g2, cvE (tn, tp, tr, tb, tk, sz, sc, br), 35), ((w.heap.size + 1), tqT (false, noP, noP), 27), (w.heap.size, aggT x, 25)]) [(true, 0), (true, 1), (true, 2), (true, 3), (true, 4), (true, 5), (false, 6), (true, 7), (true, 8)] HS.out ?_
  refine SQ.out ?_
  refine g_psk [(0, .bool true), (1, .bool false), (2, .bool false)] ?_
  refine g_ldk (some 20) (ld_mid' (D := aggT x) (k := 0) Tryz.underlying25 rfl Tryz.infoP (.tail _ (.tail _ (.head _))) rfl) ?_
  refine g_psk [(4, .pointer (some ⟨g2, 1, none⟩))] ?_
  refine g_ldk (some 22) (wk_s (.head _) (k := 1) rfl) ?_
  refine g_ck (some 23) Tryz.func30 (RX.out _) ?_
  rintro e v4 ⟨rfl, bw⟩
  replace HG := Lib.hid (HG.out.on bw)
  clear bw
  refine ⟨_, rfl, (HG.out.h.pick [0, 1, 2] _ rfl), ?_⟩
  refine g_psk [(7, .bool false), (8, .bool false)] ?_
  refine g_normk { tmps := List.toArray (List.append [.int .i64 id, .agg (aggT x), .bool true, undef, .pointer (some ⟨w.heap.size, 0, none⟩), undef, .pointer (some ⟨(w.heap.size + 1), 0, none⟩), .bool false, .pointer (some ⟨g2, 0, none⟩), .bool true, undef, undef, .tuple #[.agg (cvE (tn, tp, tr, tb, tk, sz, sc, br)), .bool true], .int .i64 id, .tuple #[.agg (cvE (tn, tp, tr, tb, tk, sz, sc, br)), .bool true], .agg (cvE (tn, tp, tr, tb, tk, sz, sc, br)), .bool true, .bool true, .bool false, .bool false, .agg (aggT x), .pointer (some ⟨g2, 1, none⟩), .string tp, .bool true, .bool false, .bool false, undef, undef, undef, undef, undef, undef, undef, undef, undef, undef, undef, undef, undef, undef] ([undef, undef, undef, undef, undef, undef, undef, undef, undef, undef, undef, undef, undef, undef, undef])), defers := [] } ?_
  refine g_done ?_
  refine ‹∀ a w, Code.wp _ _ _ a w → _› _ _ ?_
  go_upto_region 4 with (fail)
  replace HS : Hid (Held v4 [(g2, cvE (tn, tp, tr, tb, tk, sz, sc, br), 35), ((w.heap.size + 1), tqT (false, noP, noP), 27), (w.heap.size, aggT x, 25)]) := Lib.hid (HG.out.h.pick [0, 1, 2] _ rfl)
  refine Code.wp_mono (Q := fun e a' w' => e = .normal ∧ ∃ (g5 : Nat), a' = { tmps := List.toArray (List.append [.int .i64 id, .agg (aggT x), .bool true, undef, .pointer (some ⟨w.heap.size, 0, none⟩), undef, .pointer (some ⟨(w.heap.size + 1), 0, none⟩), .bool false, .pointer (some ⟨g2, 0, none⟩), .bool true, .pointer (some ⟨g5, 0, none⟩), .bool true, .tuple #[.agg (cvE (tn, tp, tr, tb, tk, sz, sc, br)), .bool true], .int .i64 id, .tuple #[.agg (cvE (tn, tp, tr, tb, tk, sz, sc, br)), .bool true], .agg (cvE (tn, tp, tr, tb, tk, sz, sc, br)), .bool true, .bool true, .bool false, .bool false, .agg (aggT x), .pointer (some ⟨g2, 1, none⟩), .string tp, .bool true, .bool false, .bool false, undef, .tuple #[.agg (aggT rt), .bool true], .int .i64 id, .agg (aggT x), .agg (aggT u), .pointer (some ⟨g2, 1, none⟩), .string tp, .tuple #[.agg (aggT rt), .bool true], .agg (aggT rt), .bool true, undef, undef, undef, undef] ([undef, undef, undef, undef, undef, undef, undef, undef, undef, undef, undef, undef, undef, undef, undef])), defers := [] } ∧ Blks w w' [(g5, aggT rt, 25), (g2, cvE (tn, tp, tr, tb, tk, sz, sc, br), 35), ((w.heap.size + 1), tqT (false, noP, noP), 27), (w.heap.size, aggT x, 25)]) ?_ ?_
  rotate_left
  ·refine m_begin (S := fun w' => Held w' [(g2, cvE (tn, tp, tr, tb, tk, sz, sc, br), 35), ((w.heap.size + 1), tqT (false, noP, noP), 27), (w.heap.size, aggT x, 25)]) (by kernel_rfl) 12 (by kernel_rfl) ?_
   replace HG := Lib.hid HG.out.drew
   change wpM _ _ _ _ _ _ _ _ (World.drew _)
   generalize World.drew v4 = v500 at *
   refine m_seqi (f := 8) [(true, 0), (true, 1), (true, 3), (true, 4)] 27 (HG.out.h.pick [0, 1, 2] _ rfl) ?_
   refine sq_psk [(0, .int .i64 id)] ?_
   refine sq_ldk (some 29) (ld_mid' (D := aggT x) (k := 0) Tryz.underlying25 rfl Tryz.infoP (.tail _ (.tail _ (.head _))) rfl) ?_
   refine sq_psk [(3, .pointer (some ⟨g2, 1, none⟩))] ?_
   refine sq_ldk (some 32) (wk_s (.head _) (k := 1) rfl) ?_
   refine sq_done ?_
   refine m_maskk (M' := 27) ?_
   refine m_waysi (f := 7) [2, 9] ?_
   intro i hi
   rcases (by simpa using hi : i = 2 ∨ i = 9) with rfl | rfl
   ·refine sq_ck (some 30) Tryz.func50 (HU.out _) ?_
    rintro e v501 ⟨rfl, bw⟩
    replace HG := Lib.hid (HG.out.on bw)
    clear bw
    refine ⟨_, rfl, (HG.out.h.pick [0, 1, 2] _ rfl), ?_⟩
    refine sq_done ?_
    refine m_maskk (M' := 31) ?_
    refine m_waysi (f := 6) [5, 9] ?_
    intro i hi
    rcases (by simpa using hi : i = 5 ∨ i = 9) with rfl | rfl
    ·refine sq_ck (some 33) Tryz.func49 (HRt.out _) ?_
     rintro e v502 ⟨rfl, bw⟩
     replace HG := Lib.hid (HG.out.on bw)
     clear bw
     refine ⟨_, rfl, (HG.out.h.pick [0, 1, 2] _ rfl), ?_⟩
     refine sq_done ?_
     refine m_maskk (M' := 63) ?_
     refine m_seqi (f := 3) [(true, 6), (true, 7), (true, 8)] 511 (HG.out.h.pick [0, 1, 2] _ rfl) ?_
     refine sq_psk [(6, .tuple #[.agg (aggT rt), .bool true])] ?_
     refine sq_psk [(7, .agg (aggT rt))] ?_
     refine sq_psk [(8, .bool true)] ?_
     refine sq_done ?_
     refine m_maskk (M' := 511) ?_
     refine m_seqi (f := 2) [(false, 9)] 1023 (HG.out.h.pick [0, 1, 2] _ rfl) ?_
     replace HG := Lib.hid (HG.out.new (aggT noP) 25)
     refine sq_allock (some 10) 25 (aggT noP) (zero_pr _) (HG.out.h.pick [1, 2, 3] _ rfl) ?_
     generalize v502.alloc _ = u503 at *
     generalize v502.heap.size = g5 at *
     refine sq_done ?_
     refine m_maskk (M' := 1023) ?_
     refine m_seqi (f := 1) [(false, 10)] 2047 (HG.out.h.pick [1, 2, 3] _ rfl) ?_
     have HN := Lib.hid (HG.out.at 0 rfl)
     replace HG : Hid (Blks w (u503.setRow g5 (aggT rt)) [(g5, aggT rt, 25), (g2, cvE (tn, tp, tr, tb, tk, sz, sc, br), 35), ((w.heap.size + 1), tqT (false, noP, noP), 27), (w.heap.size, aggT x, 25)]) := Lib.hid (HG.out.put 0 rfl (aggT rt))
     refine sq_stk 25 g5 (aggT rt) HN.out Tryz.infoP rfl (HG.out.h.pick [1, 2, 3] _ rfl) ?_
     clear HN
     generalize World.setRow _ g5 _ = t504 at *
     refine sq_done ?_
     refine m_maskk (M' := 2047) ?_
     refine m_seqi (f := 0) [(true, 11)] 4095 (HG.out.h.pick [1, 2, 3] _ rfl) ?_
     refine sq_psk [(11, .bool true)] ?_
     refine sq_done ?_
     refine m_maskk (M' := 4095) ?_
     refine m_donei { tmps := List.toArray (List.append [.int .i64 id, .agg (aggT x), .bool true, undef, .pointer (some ⟨w.heap.size, 0, none⟩), undef, .pointer (some ⟨(w.heap.size + 1), 0, none⟩), .bool false, .pointer (some ⟨g2, 0, none⟩), .bool true, .pointer (some ⟨g5, 0, none⟩), .bool true, .tuple #[.agg (cvE (tn, tp, tr, tb, tk, sz, sc, br)), .bool true], .int .i64 id, .tuple #[.agg (cvE (tn, tp, tr, tb, tk, sz, sc, br)), .bool true], .agg (cvE (tn, tp, tr, tb, tk, sz, sc, br)), .bool true, .bool true, .bool false, .bool false, .agg (aggT x), .pointer (some ⟨g2, 1, none⟩), .string tp, .bool true, .bool false, .bool false, undef, .tuple #[.agg (aggT rt), .bool true], .int .i64 id, .agg (aggT x), .agg (aggT u), .pointer (some ⟨g2, 1, none⟩), .string tp, .tuple #[.agg (aggT rt), .bool true], .agg (aggT rt), .bool true, undef, undef, undef, undef] ([undef, undef, undef, undef, undef, undef, undef, undef, undef, undef, undef, undef, undef, undef, undef])), defers := [] } ?_
     exact ⟨rfl, g5, rfl, HG.out.sub [0, 1, 2, 3] _ rfl (by decide)⟩
    ·replace HG := Lib.hid (HG.out.new (aggT noP) 25)
     refine sq_allock (some 10) 25 (aggT noP) (zero_pr _) (HG.out.h.pick [1, 2, 3] _ rfl) ?_
     generalize v501.alloc _ = u502 at *
     generalize v501.heap.size = g5 at *
     refine sq_done ?_
     refine m_maskk (M' := 543) ?_
     refine m_seqi (f := 5) [(false, 5)] 575 (HG.out.h.pick [1, 2, 3] _ rfl) ?_
     refine sq_ck (some 33) Tryz.func49 (HRt.out _) ?_
     rintro e v503 ⟨rfl, bw⟩
     replace HG := Lib.hid (HG.out.on bw)
     clear bw
     refine ⟨_, rfl, (HG.out.h.pick [1, 2, 3] _ rfl), ?_⟩
     refine sq_done ?_
     refine m_maskk (M' := 575) ?_
     refine m_seqi (f := 2) [(true, 6), (true, 7), (true, 8)] 1023 (HG.out.h.pick [1, 2, 3] _ rfl) ?_
     refine sq_psk [(6, .tuple #[.agg (aggT rt), .bool true])] ?_
     refine sq_psk [(7, .agg (aggT rt))] ?_
     refine sq_psk [(8, .bool true)] ?_
     refine sq_done ?_
     refine m_maskk (M' := 1023) ?_
     refine m_seqi (f := 1) [(false, 10)] 2047 (HG.out.h.pick [1, 2, 3] _ rfl) ?_
     have HN := Lib.hid (HG.out.at 0 rfl)
     replace HG : Hid (Blks w (v503.setRow g5 (aggT rt)) [(g5, aggT rt, 25), (g2, cvE (tn, tp, tr, tb, tk, sz, sc, br), 35), ((w.heap.size + 1), tqT (false, noP, noP), 27), (w.heap.size, aggT x, 25)]) := Lib.hid (HG.out.put 0 rfl (aggT rt))
     refine sq_stk 25 g5 (aggT rt) HN.out Tryz.infoP rfl (HG.out.h.pick [1, 2, 3] _ rfl) ?_
     clear HN
     generalize World.setRow _ g5 _ = t504 at *
     refine sq_done ?_
     refine m_maskk (M' := 2047) ?_
     refine m_seqi (f := 0) [(true, 11)] 4095 (HG.out.h.pick [1, 2, 3] _ rfl) ?_
     refine sq_psk [(11, .bool true)] ?_
     refine sq_done ?_
     refine m_maskk (M' := 4095) ?_
     refine m_donei { tmps := List.toArray (List.append [.int .i64 id, .agg (aggT x), .bool true, undef, .pointer (some ⟨w.heap.size, 0, none⟩), undef, .pointer (some ⟨(w.heap.size + 1), 0, none⟩), .bool false, .pointer (some ⟨g2, 0, none⟩), .bool true, .pointer (some ⟨g5, 0, none⟩), .bool true, .tuple #[.agg (cvE (tn, tp, tr, tb, tk, sz, sc, br)), .bool true], .int .i64 id, .tuple #[.agg (cvE (tn, tp, tr, tb, tk, sz, sc, br)), .bool true], .agg (cvE (tn, tp, tr, tb, tk, sz, sc, br)), .bool true, .bool true, .bool false, .bool false, .agg (aggT x), .pointer (some ⟨g2, 1, none⟩), .string tp, .bool true, .bool false, .bool false, undef, .tuple #[.agg (aggT rt), .bool true], .int .i64 id, .agg (aggT x), .agg (aggT u), .pointer (some ⟨g2, 1, none⟩), .string tp, .tuple #[.agg (aggT rt), .bool true], .agg (aggT rt), .bool true, undef, undef, undef, undef] ([undef, undef, undef, undef, undef, undef, undef, undef, undef, undef, undef, undef, undef, undef, undef])), defers := [] } ?_
     exact ⟨rfl, g5, rfl, HG.out.sub [0, 1, 2, 3] _ rfl (by decide)⟩
   ·replace HG := Lib.hid (HG.out.new (aggT noP) 25)
    refine sq_allock (some 10) 25 (aggT noP) (zero_pr _) (HG.out.h.pick [1, 2, 3] _ rfl) ?_
    generalize v500.alloc _ = u501 at *
    generalize v500.heap.size = g5 at *
    refine sq_done ?_
    refine m_maskk (M' := 539) ?_
    refine m_seqi (f := 6) [(false, 2)] 543 (HG.out.h.pick [1, 2, 3] _ rfl) ?_
    refine sq_ck (some 30) Tryz.func50 (HU.out _) ?_
    rintro e v502 ⟨rfl, bw⟩
    replace HG := Lib.hid (HG.out.on bw)
    clear bw
    refine ⟨_, rfl, (HG.out.h.pick [1, 2, 3] _ rfl), ?_⟩
    refine sq_done ?_
    refine m_maskk (M' := 543) ?_
    refine m_seqi (f := 5) [(false, 5)] 575 (HG.out.h.pick [1, 2, 3] _ rfl) ?_
    refine sq_ck (some 33) Tryz.func49 (HRt.out _) ?_
    rintro e v503 ⟨rfl, bw⟩
    replace HG := Lib.hid (HG.out.on bw)
    clear bw
    refine ⟨_, rfl, (HG.out.h.pick [1, 2, 3] _ rfl), ?_⟩
    refine sq_done ?_
    refine m_maskk (M' := 575) ?_
    refine m_seqi (f := 2) [(true, 6), (true, 7), (true, 8)] 1023 (HG.out.h.pick [1, 2, 3] _ rfl) ?_
    refine sq_psk [(6, .tuple #[.agg (aggT rt), .bool true])] ?_
    refine sq_psk [(7, .agg (aggT rt))] ?_
    refine sq_psk [(8, .bool true)] ?_
    refine sq_done ?_
    refine m_maskk (M' := 1023) ?_
    refine m_seqi (f := 1) [(false, 10)] 2047 (HG.out.h.pick [1, 2, 3] _ rfl) ?_
    have HN := Lib.hid (HG.out.at 0 rfl)
    replace HG : Hid (Blks w (v503.setRow g5 (aggT rt)) [(g5, aggT rt, 25), (g2, cvE (tn, tp, tr, tb, tk, sz, sc, br), 35), ((w.heap.size + 1), tqT (false, noP, noP), 27), (w.heap.size, aggT x, 25)]) := Lib.hid (HG.out.put 0 rfl (aggT rt))
    refine sq_stk 25 g5 (aggT rt) HN.out Tryz.infoP rfl (HG.out.h.pick [1, 2, 3] _ rfl) ?_
    clear HN
    generalize World.setRow _ g5 _ = t504 at *
    refine sq_done ?_
    refine m_maskk (M' := 2047) ?_
    refine m_seqi (f := 0) [(true, 11)] 4095 (HG.out.h.pick [1, 2, 3] _ rfl) ?_
    refine sq_psk [(11, .bool true)] ?_
    refine sq_done ?_
    refine m_maskk (M' := 4095) ?_
    refine m_donei { tmps := List.toArray (List.append [.int .i64 id, .agg (aggT x), .bool true, undef, .pointer (some ⟨w.heap.size, 0, none⟩), undef, .pointer (some ⟨(w.heap.size + 1), 0, none⟩), .bool false, .pointer (some ⟨g2, 0, none⟩), .bool true, .pointer (some ⟨g5, 0, none⟩), .bool true, .tuple #[.agg (cvE (tn, tp, tr, tb, tk, sz, sc, br)), .bool true], .int .i64 id, .tuple #[.agg (cvE (tn, tp, tr, tb, tk, sz, sc, br)), .bool true], .agg (cvE (tn, tp, tr, tb, tk, sz, sc, br)), .bool true, .bool true, .bool false, .bool false, .agg (aggT x), .pointer (some ⟨g2, 1, none⟩), .string tp, .bool true, .bool false, .bool false, undef, .tuple #[.agg (aggT rt), .bool true], .int .i64 id, .agg (aggT x), .agg (aggT u), .pointer (some ⟨g2, 1, none⟩), .string tp, .tuple #[.agg (aggT rt), .bool true], .agg (aggT rt), .bool true, undef, undef, undef, undef] ([undef, undef, undef, undef, undef, undef, undef, undef, undef, undef, undef, undef, undef, undef, undef])), defers := [] } ?_
    exact ⟨rfl, g5, rfl, HG.out.sub [0, 1, 2, 3] _ rfl (by decide)⟩
  rintro e a t5 ⟨rfl, g5, rfl, hG⟩
  replace HG := Lib.hid hG
  clear hG
  refine ‹∀ a w, Code.wp _ _ _ a w → _› _ _ ?_
  go_upto_region 5 with (fail)
  replace HS : Hid (Held t5 [(g5, aggT rt, 25), (g2, cvE (tn, tp, tr, tb, tk, sz, sc, br), 35), ((w.heap.size + 1), tqT (false, noP, noP), 27), (w.heap.size, aggT x, 25)]) := Lib.hid (HG.out.h.pick [0, 1, 2, 3] _ rfl)
  refine wp_region_linek (S := fun w' => Held w' [(g5, aggT rt, 25), (g2, cvE (tn, tp, tr, tb, tk, sz, sc, br), 35), ((w.heap.size + 1), tqT (false, noP, noP), 27), (w.heap.size, aggT x, 25)]) [(true, 0), (true, 1), (true, 2), (true, 3), (true, 4), (true, 5), (true, 6), (true, 7), (true, 8), (true, 9)] HS.out ?_
  refine SQ.out ?_
  refine g_psk [(0, .bool true), (1, .bool false), (2, .bool false), (3, .bool true), (4, .bool true)] ?_
  refine g_ldk (some 41) (ld_mid' (D := aggT rt) (k := 0) Tryz.underlying25 rfl Tryz.infoP (.head _) rfl) ?_
  refine g_pure (some 42) (.agg (aggT noP)) (by kernel_rfl) (wanted_by (g := 4) (b := true) (d := 40) (by kernel_rfl) (by kernel_rfl) (by kernel_rfl) (by kernel_rfl)) (held_build 25 #[] (by kernel_rfl) _ (by kernel_rfl) _ built_pair0) ?_
  refine g_take (some 43) (.bool true) (by kernel_rfl) (eq_pr (wanted_by (g := 4) (b := true) (d := 40) (by kernel_rfl) (by kernel_rfl) (by kernel_rfl) (by kernel_rfl)) (.tmp 41) (.tmp 42) (by kernel_rfl) rt noP true HZ.out (by kernel_rfl) (by kernel_rfl)) ?_
  refine g_psk [(8, .bool true), (9, .bool true)] ?_
  refine g_normk { tmps := List.toArray (List.append [.int .i64 id, .agg (aggT x), .bool true, undef, .pointer (some ⟨w.heap.size, 0, none⟩), undef, .pointer (some ⟨(w.heap.size + 1), 0, none⟩), .bool false, .pointer (some ⟨g2, 0, none⟩), .bool true, .pointer (some ⟨g5, 0, none⟩), .bool true, .tuple #[.agg (cvE (tn, tp, tr, tb, tk, sz, sc, br)), .bool true], .int .i64 id, .tuple #[.agg (cvE (tn, tp, tr, tb, tk, sz, sc, br)), .bool true], .agg (cvE (tn, tp, tr, tb, tk, sz, sc, br)), .bool true, .bool true, .bool false, .bool false, .agg (aggT x), .pointer (some ⟨g2, 1, none⟩), .string tp, .bool true, .bool false, .bool false, undef, .tuple #[.agg (aggT rt), .bool true], .int .i64 id, .agg (aggT x), .agg (aggT u), .pointer (some ⟨g2, 1, none⟩), .string tp, .tuple #[.agg (aggT rt), .bool true], .agg (aggT rt), .bool true, .bool true, .bool false, .bool false, .bool true] ([.bool true, .agg (aggT rt), .agg (aggT noP), .bool true, .bool true, .bool true, undef, undef, undef, undef, undef, undef, undef, undef, undef])), defers := [] } ?_
  refine g_done ?_
  refine ‹∀ a w, Code.wp _ _ _ a w → _› _ _ ?_
  go_upto_region 6 with (fail)
  replace HS : Hid (Held t5 [(g5, aggT rt, 25), (g2, cvE (tn, tp, tr, tb, tk, sz, sc, br), 35), (w.heap.size, aggT x, 25)]) := Lib.hid (HG.out.h.pick [0, 1, 3] _ rfl)
  refine wp_region_linek (S := fun w' => Held w' [(g5, aggT rt, 25), (g2, cvE (tn, tp, tr, tb, tk, sz, sc, br), 35), (w.heap.size, aggT x, 25)]) [(true, 0), (false, 1), (true, 2)] HS.out ?_
  refine sq_pure (some 46) (.agg (tqT (false, noP, noP))) (by kernel_rfl) (by kernel_rfl) (held_build 27 #[] (by kernel_rfl) _ (by kernel_rfl) _ built_pq0) ?_
  have HN := Lib.hid (HG.out.at 2 rfl)
  replace HG : Hid (Blks w (t5.setRow (w.heap.size + 1) (tqT (false, noP, noP))) [(g5, aggT rt, 25), (g2, cvE (tn, tp, tr, tb, tk, sz, sc, br), 35), ((w.heap.size + 1), tqT (false, noP, noP), 27), (w.heap.size, aggT x, 25)]) := Lib.hid (HG.out.put 2 rfl (tqT (false, noP, noP)))
  refine sq_stk 27 (w.heap.size + 1) (tqT (false, noP, noP)) HN.out Tryz.infoPq rfl (HG.out.h.pick [0, 1, 3] _ rfl) ?_
  clear HN
  generalize World.setRow _ (w.heap.size + 1) _ = t6 at *
  refine sq_psk [(2, .bool false)] ?_
  refine sq_done ?_
  refine ‹∀ a w, Code.wp _ Code.ret _ a w → _› _ _ ?_
  refine wp_ret ?_
  try refine wk_block ?_
  try refine wk_then ?_
  exact bodyPost_ret (res_ct (C := tqT (false, noP, noP)) Tryz.underlying27 rfl Tryz.infoPq (HG.out.at 2 rfl) Tryz.results23 _ (by kernel_rfl) (v := .bool false) (by kernel_rfl)) (by kernel_rfl) ⟨rfl, HG.out.b⟩
 | false =>
  simp only [Bool.not_false, if_true]
  have HG := Lib.hid (blks2 w (aggT x) (#[.bool false, .string ⟨#[]⟩, .string ⟨#[]⟩, .string ⟨#[]⟩, .string ⟨#[]⟩]) 25 27)
  go_enter Tryz.func23, Tryz.ntmps23
  go_upto_region 1 with (fail)
  generalize (w.alloc _).alloc _ = w0 at *
  replace HG : Hid (Blks w w0 [(w.heap.size + 1, tqT (false, noP, noP), 27), (w.heap.size, aggT x, 25)]) := HG
  have HS := Lib.hid HG.out.h
  replace HS : Hid (Held w0 [((w.heap.size + 1), tqT (false, noP, noP), 27), (w.heap.size, aggT x, 25)]) := Lib.hid (HG.out.h.pick [0, 1] _ rfl)
  refine wp_region_linek (S := fun w' => Held w' [((w.heap.size + 1), tqT (false, noP, noP), 27), (w.heap.size, aggT x, 25)]) [(true, 0), (false, 1), (true, 2), (true, 3), (true, 4), (false, 5), (false, 6), (true, 7)] HS.out ?_
  refine sq_psk [(0, .int .i64 id)] ?_
  refine sq_ck (some 14) Tryz.func14 (HK.out _) ?_
  rintro e v1 ⟨rfl, bw⟩
  replace HG := Lib.hid (HG.out.on bw)
  clear bw
  refine ⟨_, rfl, (HG.out.h.pick [0, 1] _ rfl), ?_⟩
  refine sq_psk [(2, .tuple #[.agg (cvE (tn, tp, tr, tb, tk, sz, sc, br)), .bool true]), (3, .agg (cvE (tn, tp, tr, tb, tk, sz, sc, br))), (4, .bool true)] ?_
  replace HG := Lib.hid (HG.out.new (cvE (⟨#[]⟩, ⟨#[]⟩, ⟨#[]⟩, ⟨#[]⟩, noP, 0, 0, false)) 35)
  refine sq_allock (some 8) 35 (cvE (⟨#[]⟩, ⟨#[]⟩, ⟨#[]⟩, ⟨#[]⟩, noP, 0, 0, false)) (zero_cv _) (HG.out.h.pick [1, 2] _ rfl) ?_
  generalize v1.alloc _ = u2 at *
  generalize v1.heap.size = g2 at *
  have HN := Lib.hid (HG.out.at 0 rfl)
  replace HG : Hid (Blks w (u2.setRow g2 (cvE (tn, tp, tr, tb, tk, sz, sc, br))) [(g2, cvE (tn, tp, tr, tb, tk, sz, sc, br), 35), ((w.heap.size + 1), tqT (false, noP, noP), 27), (w.heap.size, aggT x, 25)]) := Lib.hid (HG.out.put 0 rfl (cvE (tn, tp, tr, tb, tk, sz, sc, br)))
  refine sq_stk 35 g2 (cvE (tn, tp, tr, tb, tk, sz, sc, br)) HN.out Tryz.infoCv rfl (HG.out.h.pick [1, 2] _ rfl) ?_
  clear HN
  generalize World.setRow _ g2 _ = t3 at *
  refine sq_psk [(7, .bool true)] ?_
  refine sq_fink { tmps := List.toArray (List.append [.int .i64 id, .agg (aggT x), .bool true, undef, .pointer (some ⟨w.heap.size, 0, none⟩), undef, .pointer (some ⟨(w.heap.size + 1), 0, none⟩), .bool false, .pointer (some ⟨g2, 0, none⟩), .bool true, undef, undef, .tuple #[.agg (cvE (tn, tp, tr, tb, tk, sz, sc, br)), .bool true], .int .i64 id, .tuple #[.agg (cvE (tn, tp, tr, tb, tk, sz, sc, br)), .bool true], .agg (cvE (tn, tp, tr, tb, tk, sz, sc, br)), .bool true, undef, undef, undef, undef, undef, undef, undef, undef, undef, undef, undef, undef, undef, undef, undef, undef, undef, undef, undef, undef, undef, undef, undef] ([undef, undef, undef, undef, undef, undef, undef, undef, undef, undef, undef, undef, undef, undef, undef])), defers := [] } ?_
  refine ‹∀ a w, Code.wp _ _ _ a w → _› _ _ ?_
  go_upto_region 2 with (fail)
  replace HS : Hid (Held t3 [(g2, cvE (tn, tp, tr, tb, tk, sz, sc, br), 35), ((w.heap.size + 1), tqT (false, noP, noP), 27), (w.heap.size, aggT x, 25)]) := Lib.hid (HG.out.h.pick [0, 1, 2] _ rfl)
  refine wp_region_linek (S := fun w' => Held w' [(g2, cvE (tn, tp, tr, tb, tk, sz, sc, br), 35), ((w.heap.size + 1), tqT (false, noP, noP), 27), (w.heap.size, aggT x, 25)]) [(true, 0), (true, 1), (true, 2), (true, 3), (true, 4), (true, 5), (false, 6), (true, 7), (true, 8)] HS.out ?_
  refine SQ.out ?_
  refine g_psk [(0, .bool true), (1, .bool false), (2, .bool false)] ?_
  refine g_ldk (some 20) (ld_mid' (D := aggT x) (k := 0) Tryz.underlying25 rfl Tryz.infoP (.tail _ (.tail _ (.head _))) rfl) ?_
  refine g_psk [(4, .pointer (some ⟨g2, 1, none⟩))] ?_
  refine g_ldk (some 22) (wk_s (.head _) (k := 1) rfl) ?_
  refine g_ck (some 23) Tryz.func30 (RX.out _) ?_
  rintro e v4 ⟨rfl, bw⟩
  replace HG := Lib.hid (HG.out.on bw)
  clear bw
  refine ⟨_, rfl, (HG.out.h.pick [0, 1, 2] _ rfl), ?_⟩
  refine g_psk [(7, .bool false), (8, .bool false)] ?_
  refine g_normk { tmps := List.toArray (List.append [.int .i64 id, .agg (aggT x), .bool true, undef, .pointer (some ⟨w.heap.size, 0, none⟩), undef, .pointer (some ⟨(w.heap.size + 1), 0, none⟩), .bool false, .pointer (some ⟨g2, 0, none⟩), .bool true, undef, undef, .tuple #[.agg (cvE (tn, tp, tr, tb, tk, sz, sc, br)), .bool true], .int .i64 id, .tuple #[.agg (cvE (tn, tp, tr, tb, tk, sz, sc, br)), .bool true], .agg (cvE (tn, tp, tr, tb, tk, sz, sc, br)), .bool true, .bool true, .bool false, .bool false, .agg (aggT x), .pointer (some ⟨g2, 1, none⟩), .string tp, .bool true, .bool false, .bool false, undef, undef, undef, undef, undef, undef, undef, undef, undef, undef, undef, undef, undef, undef] ([undef, undef, undef, undef, undef, undef, undef, undef, undef, undef, undef, undef, undef, undef, undef])), defers := [] } ?_
  refine g_done ?_
  refine ‹∀ a w, Code.wp _ _ _ a w → _› _ _ ?_
  go_upto_region 4 with (fail)
  replace HS : Hid (Held v4 [(g2, cvE (tn, tp, tr, tb, tk, sz, sc, br), 35), ((w.heap.size + 1), tqT (false, noP, noP), 27), (w.heap.size, aggT x, 25)]) := Lib.hid (HG.out.h.pick [0, 1, 2] _ rfl)
  refine Code.wp_mono (Q := fun e a' w' => e = .normal ∧ ∃ (g5 : Nat), a' = { tmps := List.toArray (List.append [.int .i64 id, .agg (aggT x), .bool true, undef, .pointer (some ⟨w.heap.size, 0, none⟩), undef, .pointer (some ⟨(w.heap.size + 1), 0, none⟩), .bool false, .pointer (some ⟨g2, 0, none⟩), .bool true, .pointer (some ⟨g5, 0, none⟩), .bool true, .tuple #[.agg (cvE (tn, tp, tr, tb, tk, sz, sc, br)), .bool true], .int .i64 id, .tuple #[.agg (cvE (tn, tp, tr, tb, tk, sz, sc, br)), .bool true], .agg (cvE (tn, tp, tr, tb, tk, sz, sc, br)), .bool true, .bool true, .bool false, .bool false, .agg (aggT x), .pointer (some ⟨g2, 1, none⟩), .string tp, .bool true, .bool false, .bool false, undef, .tuple #[.agg (aggT rt), .bool true], .int .i64 id, .agg (aggT x), .agg (aggT u), .pointer (some ⟨g2, 1, none⟩), .string tp, .tuple #[.agg (aggT rt), .bool true], .agg (aggT rt), .bool true, undef, undef, undef, undef] ([undef, undef, undef, undef, undef, undef, undef, undef, undef, undef, undef, undef, undef, undef, undef])), defers := [] } ∧ Blks w w' [(g5, aggT rt, 25), (g2, cvE (tn, tp, tr, tb, tk, sz, sc, br), 35), ((w.heap.size + 1), tqT (false, noP, noP), 27), (w.heap.size, aggT x, 25)]) ?_ ?_
  rotate_left
  ·refine m_begin (S := fun w' => Held w' [(g2, cvE (tn, tp, tr, tb, tk, sz, sc, br), 35), ((w.heap.size + 1), tqT (false, noP, noP), 27), (w.heap.size, aggT x, 25)]) (by kernel_rfl) 12 (by kernel_rfl) ?_
   replace HG := Lib.hid HG.out.drew
   change wpM _ _ _ _ _ _ _ _ (World.drew _)
   generalize World.drew v4 = v500 at *
   refine m_seqi (f := 8) [(true, 0), (true, 1), (true, 3), (true, 4)] 27 (HG.out.h.pick [0, 1, 2] _ rfl) ?_
   refine sq_psk [(0, .int .i64 id)] ?_
   refine sq_ldk (some 29) (ld_mid' (D := aggT x) (k := 0) Tryz.underlying25 rfl Tryz.infoP (.tail _ (.tail _ (.head _))) rfl) ?_
   refine sq_psk [(3, .pointer (some ⟨g2, 1, none⟩))] ?_
   refine sq_ldk (some 32) (wk_s (.head _) (k := 1) rfl) ?_
   refine sq_done ?_
   refine m_maskk (M' := 27) ?_
   refine m_waysi (f := 7) [2, 9] ?_
   intro i hi
   rcases (by simpa using hi : i = 2 ∨ i = 9) with rfl | rfl
   ·refine sq_ck (some 30) Tryz.func50 (HU.out _) ?_
    rintro e v501 ⟨rfl, bw⟩
    replace HG := Lib.hid (HG.out.on bw)
    clear bw
    refine ⟨_, rfl, (HG.out.h.pick [0, 1, 2] _ rfl), ?_⟩
    refine sq_done ?_
    refine m_maskk (M' := 31) ?_
    refine m_waysi (f := 6) [5, 9] ?_
    intro i hi
    rcases (by simpa using hi : i = 5 ∨ i = 9) with rfl | rfl
    ·refine sq_ck (some 33) Tryz.func49 (HRt.out _) ?_
     rintro e v502 ⟨rfl, bw⟩
     replace HG := Lib.hid (HG.out.on bw)
     clear bw
     refine ⟨_, rfl, (HG.out.h.pick [0, 1, 2] _ rfl), ?_⟩
     refine sq_done ?_
     refine m_maskk (M' := 63) ?_
     refine m_seqi (f := 3) [(true, 6), (true, 7), (true, 8)] 511 (HG.out.h.pick [0, 1, 2] _ rfl) ?_
     refine sq_psk [(6, .tuple #[.agg (aggT rt), .bool true])] ?_
     refine sq_psk [(7, .agg (aggT rt))] ?_
     refine sq_psk [(8, .bool true)] ?_
     refine sq_done ?_
     refine m_maskk (M' := 511) ?_
     refine m_seqi (f := 2) [(false, 9)] 1023 (HG.out.h.pick [0, 1, 2] _ rfl) ?_
     replace HG := Lib.hid (HG.out.new (aggT noP) 25)
     refine sq_allock (some 10) 25 (aggT noP) (zero_pr _) (HG.out.h.pick [1, 2, 3] _ rfl) ?_
     generalize v502.alloc _ = u503 at *
     generalize v502.heap.size = g5 at *
     refine sq_done ?_
     refine m_maskk (M' := 1023) ?_
     refine m_seqi (f := 1) [(false, 10)] 2047 (HG.out.h.pick [1, 2, 3] _ rfl) ?_
     have HN := Lib.hid (HG.out.at 0 rfl)
     replace HG : Hid (Blks w (u503.setRow g5 (aggT rt)) [(g5, aggT rt, 25), (g2, cvE (tn, tp, tr, tb, tk, sz, sc, br), 35), ((w.heap.size + 1), tqT (false, noP, noP), 27), (w.heap.size, aggT x, 25)]) := Lib.hid (HG.out.put 0 rfl (aggT rt))
     refine sq_stk 25 g5 (aggT rt) HN.out Tryz.infoP rfl (HG.out.h.pick [1, 2, 3] _ rfl) ?_
     clear HN
     generalize World.setRow _ g5 _ = t504 at *
     refine sq_done ?_
     refine m_maskk (M' := 2047) ?_
     refine m_seqi (f := 0) [(true, 11)] 4095 (HG.out.h.pick [1, 2, 3] _ rfl) ?_
     refine sq_psk [(11, .bool true)] ?_
     refine sq_done ?_
     refine m_maskk (M' := 4095) ?_
     refine m_donei { tmps := List.toArray (List.append [.int .i64 id, .agg (aggT x), .bool true, undef, .pointer (some ⟨w.heap.size, 0, none⟩), undef, .pointer (some ⟨(w.heap.size + 1), 0, none⟩), .bool false, .pointer (some ⟨g2, 0, none⟩), .bool true, .pointer (some ⟨g5, 0, none⟩), .bool true, .tuple #[.agg (cvE (tn, tp, tr, tb, tk, sz, sc, br)), .bool true], .int .i64 id, .tuple #[.agg (cvE (tn, tp, tr, tb, tk, sz, sc, br)), .bool true], .agg (cvE (tn, tp, tr, tb, tk, sz, sc, br)), .bool true, .bool true, .bool false, .bool false, .agg (aggT x), .pointer (some ⟨g2, 1, none⟩), .string tp, .bool true, .bool false, .bool false, undef, .tuple #[.agg (aggT rt), .bool true], .int .i64 id, .agg (aggT x), .agg (aggT u), .pointer (some ⟨g2, 1, none⟩), .string tp, .tuple #[.agg (aggT rt), .bool true], .agg (aggT rt), .bool true, undef, undef, undef, undef] ([undef, undef, undef, undef, undef, undef, undef, undef, undef, undef, undef, undef, undef, undef, undef])), defers := [] } ?_
     exact ⟨rfl, g5, rfl, HG.out.sub [0, 1, 2, 3] _ rfl (by decide)⟩
    ·replace HG := Lib.hid (HG.out.new (aggT noP) 25)
     refine sq_allock (some 10) 25 (aggT noP) (zero_pr _) (HG.out.h.pick [1, 2, 3] _ rfl) ?_
     generalize v501.alloc _ = u502 at *
     generalize v501.heap.size = g5 at *
     refine sq_done ?_
     refine m_maskk (M' := 543) ?_
     refine m_seqi (f := 5) [(false, 5)] 575 (HG.out.h.pick [1, 2, 3] _ rfl) ?_
     refine sq_ck (some 33) Tryz.func49 (HRt.out _) ?_
     rintro e v503 ⟨rfl, bw⟩
     replace HG := Lib.hid (HG.out.on bw)
     clear bw
     refine ⟨_, rfl, (HG.out.h.pick [1, 2, 3] _ rfl), ?_⟩
     refine sq_done ?_
     refine m_maskk (M' := 575) ?_
     refine m_seqi (f := 2) [(true, 6), (true, 7), (true, 8)] 1023 (HG.out.h.pick [1, 2, 3] _ rfl) ?_
     refine sq_psk [(6, .tuple #[.agg (aggT rt), .bool true])] ?_
     refine sq_psk [(7, .agg (aggT rt))] ?_
     refine sq_psk [(8, .bool true)] ?_
     refine sq_done ?_
     refine m_maskk (M' := 1023) ?_
     refine m_seqi (f := 1) [(false, 10)] 2047 (HG.out.h.pick [1, 2, 3] _ rfl) ?_
     have HN := Lib.hid (HG.out.at 0 rfl)
     replace HG : Hid (Blks w (v503.setRow g5 (aggT rt)) [(g5, aggT rt, 25), (g2, cvE (tn, tp, tr, tb, tk, sz, sc, br), 35), ((w.heap.size + 1), tqT (false, noP, noP), 27), (w.heap.size, aggT x, 25)]) := Lib.hid (HG.out.put 0 rfl (aggT rt))
     refine sq_stk 25 g5 (aggT rt) HN.out Tryz.infoP rfl (HG.out.h.pick [1, 2, 3] _ rfl) ?_
     clear HN
     generalize World.setRow _ g5 _ = t504 at *
     refine sq_done ?_
     refine m_maskk (M' := 2047) ?_
     refine m_seqi (f := 0) [(true, 11)] 4095 (HG.out.h.pick [1, 2, 3] _ rfl) ?_
     refine sq_psk [(11, .bool true)] ?_
     refine sq_done ?_
     refine m_maskk (M' := 4095) ?_
     refine m_donei { tmps := List.toArray (List.append [.int .i64 id, .agg (aggT x), .bool true, undef, .pointer (some ⟨w.heap.size, 0, none⟩), undef, .pointer (some ⟨(w.heap.size + 1), 0, none⟩), .bool false, .pointer (some ⟨g2, 0, none⟩), .bool true, .pointer (some ⟨g5, 0, none⟩), .bool true, .tuple #[.agg (cvE (tn, tp, tr, tb, tk, sz, sc, br)), .bool true], .int .i64 id, .tuple #[.agg (cvE (tn, tp, tr, tb, tk, sz, sc, br)), .bool true], .agg (cvE (tn, tp, tr, tb, tk, sz, sc, br)), .bool true, .bool true, .bool false, .bool false, .agg (aggT x), .pointer (some ⟨g2, 1, none⟩), .string tp, .bool true, .bool false, .bool false, undef, .tuple #[.agg (aggT rt), .bool true], .int .i64 id, .agg (aggT x), .agg (aggT u), .pointer (some ⟨g2, 1, none⟩), .string tp, .tuple #[.agg (aggT rt), .bool true], .agg (aggT rt), .bool true, undef, undef, undef, undef] ([undef, undef, undef, undef, undef, undef, undef, undef, undef, undef, undef, undef, undef, undef, undef])), defers := [] } ?_
     exact ⟨rfl, g5, rfl, HG.out.sub [0, 1, 2, 3] _ rfl (by decide)⟩
   ·replace HG := Lib.hid (HG.out.new (aggT noP) 25)
    refine sq_allock (some 10) 25 (aggT noP) (zero_pr _) (HG.out.h.pick [1, 2, 3] _ rfl) ?_
    generalize v500.alloc _ = u501 at *
    generalize v500.heap.size = g5 at *
    refine sq_done ?_
    refine m_maskk (M' := 539) ?_
    refine m_seqi (f := 6) [(false, 2)] 543 (HG.out.h.pick [1, 2, 3] _ rfl) ?_
    refine sq_ck (some 30) Tryz.func50 (HU.out _) ?_
    rintro e v502 ⟨rfl, bw⟩
    replace HG := Lib.hid (HG.out.on bw)
    clear bw
    refine ⟨_, rfl, (HG.out.h.pick [1, 2, 3] _ rfl), ?_⟩
    refine sq_done ?_
    refine m_maskk (M' := 543) ?_
    refine m_seqi (f := 5) [(false, 5)] 575 (HG.out.h.pick [1, 2, 3] _ rfl) ?_
    refine sq_ck (some 33) Tryz.func49 (HRt.out _) ?_
    rintro e v503 ⟨rfl, bw⟩
    replace HG := Lib.hid (HG.out.on bw)
    clear bw
    refine ⟨_, rfl, (HG.out.h.pick [1, 2, 3] _ rfl), ?_⟩
    refine sq_done ?_
    refine m_maskk (M' := 575) ?_
    refine m_seqi (f := 2) [(true, 6), (true, 7), (true, 8)] 1023 (HG.out.h.pick [1, 2, 3] _ rfl) ?_
    refine sq_psk [(6, .tuple #[.agg (aggT rt), .bool true])] ?_
    refine sq_psk [(7, .agg (aggT rt))] ?_
    refine sq_psk [(8, .bool true)] ?_
    refine sq_done ?_
    refine m_maskk (M' := 1023) ?_
    refine m_seqi (f := 1) [(false, 10)] 2047 (HG.out.h.pick [1, 2, 3] _ rfl) ?_
    have HN := Lib.hid (HG.out.at 0 rfl)
    replace HG : Hid (Blks w (v503.setRow g5 (aggT rt)) [(g5, aggT rt, 25), (g2, cvE (tn, tp, tr, tb, tk, sz, sc, br), 35), ((w.heap.size + 1), tqT (false, noP, noP), 27), (w.heap.size, aggT x, 25)]) := Lib.hid (HG.out.put 0 rfl (aggT rt))
    refine sq_stk 25 g5 (aggT rt) HN.out Tryz.infoP rfl (HG.out.h.pick [1, 2, 3] _ rfl) ?_
    clear HN
    generalize World.setRow _ g5 _ = t504 at *
    refine sq_done ?_
    refine m_maskk (M' := 2047) ?_
    refine m_seqi (f := 0) [(true, 11)] 4095 (HG.out.h.pick [1, 2, 3] _ rfl) ?_
    refine sq_psk [(11, .bool true)] ?_
    refine sq_done ?_
    refine m_maskk (M' := 4095) ?_
    refine m_donei { tmps := List.toArray (List.append [.int .i64 id, .agg (aggT x), .bool true, undef, .pointer (some ⟨w.heap.size, 0, none⟩), undef, .pointer (some ⟨(w.heap.size + 1), 0, none⟩), .bool false, .pointer (some ⟨g2, 0, none⟩), .bool true, .pointer (some ⟨g5, 0, none⟩), .bool true, .tuple #[.agg (cvE (tn, tp, tr, tb, tk, sz, sc, br)), .bool true], .int .i64 id, .tuple #[.agg (cvE (tn, tp, tr, tb, tk, sz, sc, br)), .bool true], .agg (cvE (tn, tp, tr, tb, tk, sz, sc, br)), .bool true, .bool true, .bool false, .bool false, .agg (aggT x), .pointer (some ⟨g2, 1, none⟩), .string tp, .bool true, .bool false, .bool false, undef, .tuple #[.agg (aggT rt), .bool true], .int .i64 id, .agg (aggT x), .agg (aggT u), .pointer (some ⟨g2, 1, none⟩), .string tp, .tuple #[.agg (aggT rt), .bool true], .agg (aggT rt), .bool true, undef, undef, undef, undef] ([undef, undef, undef, undef, undef, undef, undef, undef, undef, undef, undef, undef, undef, undef, undef])), defers := [] } ?_
    exact ⟨rfl, g5, rfl, HG.out.sub [0, 1, 2, 3] _ rfl (by decide)⟩
  rintro e a t5 ⟨rfl, g5, rfl, hG⟩
  replace HG := Lib.hid hG
  clear hG
  refine ‹∀ a w, Code.wp _ _ _ a w → _› _ _ ?_
  go_upto_region 5 with (fail)
  replace HS : Hid (Held t5 [(g5, aggT rt, 25), (g2, cvE (tn, tp, tr, tb, tk, sz, sc, br), 35), ((w.heap.size + 1), tqT (false, noP, noP), 27), (w.heap.size, aggT x, 25)]) := Lib.hid (HG.out.h.pick [0, 1, 2, 3] _ rfl)
  refine wp_region_linek (S := fun w' => Held w' [(g5, aggT rt, 25), (g2, cvE (tn, tp, tr, tb, tk, sz, sc, br), 35), ((w.heap.size + 1), tqT (false, noP, noP), 27), (w.heap.size, aggT x, 25)]) [(true, 0), (true, 1), (true, 2), (true, 3), (true, 4), (true, 5), (true, 6), (true, 7), (true, 8), (true, 9)] HS.out ?_
  refine SQ.out ?_
  refine g_psk [(0, .bool true), (1, .bool false), (2, .bool false), (3, .bool true), (4, .bool true)] ?_
  refine g_ldk (some 41) (ld_mid' (D := aggT rt) (k := 0) Tryz.underlying25 rfl Tryz.infoP (.head _) rfl) ?_
  refine g_pure (some 42) (.agg (aggT noP)) (by kernel_rfl) (wanted_by (g := 4) (b := true) (d := 40) (by kernel_rfl) (by kernel_rfl) (by kernel_rfl) (by kernel_rfl)) (held_build 25 #[] (by kernel_rfl) _ (by kernel_rfl) _ built_pair0) ?_
  refine g_take (some 43) (.bool false) (by kernel_rfl) (eq_pr (wanted_by (g := 4) (b := true) (d := 40) (by kernel_rfl) (by kernel_rfl) (by kernel_rfl) (by kernel_rfl)) (.tmp 41) (.tmp 42) (by kernel_rfl) rt noP false HZ.out (by kernel_rfl) (by kernel_rfl)) ?_
  refine g_psk [(8, .bool false), (9, .bool false)] ?_
  refine g_normk { tmps := List.toArray (List.append [.int .i64 id, .agg (aggT x), .bool true, undef, .pointer (some ⟨w.heap.size, 0, none⟩), undef, .pointer (some ⟨(w.heap.size + 1), 0, none⟩), .bool false, .pointer (some ⟨g2, 0, none⟩), .bool true, .pointer (some ⟨g5, 0, none⟩), .bool true, .tuple #[.agg (cvE (tn, tp, tr, tb, tk, sz, sc, br)), .bool true], .int .i64 id, .tuple #[.agg (cvE (tn, tp, tr, tb, tk, sz, sc, br)), .bool true], .agg (cvE (tn, tp, tr, tb, tk, sz, sc, br)), .bool true, .bool true, .bool false, .bool false, .agg (aggT x), .pointer (some ⟨g2, 1, none⟩), .string tp, .bool true, .bool false, .bool false, undef, .tuple #[.agg (aggT rt), .bool true], .int .i64 id, .agg (aggT x), .agg (aggT u), .pointer (some ⟨g2, 1, none⟩), .string tp, .tuple #[.agg (aggT rt), .bool true], .agg (aggT rt), .bool true, .bool true, .bool false, .bool false, .bool true] ([.bool true, .agg (aggT rt), .agg (aggT noP), .bool false, .bool false, .bool false, undef, undef, undef, undef, undef, undef, undef, undef, undef])), defers := [] } ?_
  refine g_done ?_
  refine ‹∀ a w, Code.wp _ _ _ a w → _› _ _ ?_
  go_upto_region 7 with (fail)
  replace HS : Hid (Held t5 [(g5, aggT rt, 25), (g2, cvE (tn, tp, tr, tb, tk, sz, sc, br), 35), ((w.heap.size + 1), tqT (false, noP, noP), 27), (w.heap.size, aggT x, 25)]) := Lib.hid (HG.out.h.pick [0, 1, 2, 3] _ rfl)
  refine wp_region_linek (S := fun w' => Held w' [(g5, aggT rt, 25), (g2, cvE (tn, tp, tr, tb, tk, sz, sc, br), 35), ((w.heap.size + 1), tqT (false, noP, noP), 27), (w.heap.size, aggT x, 25)]) [(true, 0)] HS.out ?_
  refine sq_psk [(0, .bool true)] ?_
  refine sq_fink { tmps := List.toArray (List.append [.int .i64 id, .agg (aggT x), .bool true, undef, .pointer (some ⟨w.heap.size, 0, none⟩), undef, .pointer (some ⟨(w.heap.size + 1), 0, none⟩), .bool false, .pointer (some ⟨g2, 0, none⟩), .bool true, .pointer (some ⟨g5, 0, none⟩), .bool true, .tuple #[.agg (cvE (tn, tp, tr, tb, tk, sz, sc, br)), .bool true], .int .i64 id, .tuple #[.agg (cvE (tn, tp, tr, tb, tk, sz, sc, br)), .bool true], .agg (cvE (tn, tp, tr, tb, tk, sz, sc, br)), .bool true, .bool true, .bool false, .bool false, .agg (aggT x), .pointer (some ⟨g2, 1, none⟩), .string tp, .bool true, .bool false, .bool false, undef, .tuple #[.agg (aggT rt), .bool true], .int .i64 id, .agg (aggT x), .agg (aggT u), .pointer (some ⟨g2, 1, none⟩), .string tp, .tuple #[.agg (aggT rt), .bool true], .agg (aggT rt), .bool true, .bool true, .bool false, .bool false, .bool true] ([.bool true, .agg (aggT rt), .agg (aggT noP), .bool false, .bool false, .bool false, undef, .bool true, undef, undef, undef, undef, undef, undef, undef])), defers := [] } ?_
  refine ‹∀ a w, Code.wp _ _ _ a w → _› _ _ ?_
  go_upto_region 8 with (fail)
  replace HS : Hid (Held t5 [(g2, cvE (tn, tp, tr, tb, tk, sz, sc, br), 35), ((w.heap.size + 1), tqT (false, noP, noP), 27), (w.heap.size, aggT x, 25)]) := Lib.hid (HG.out.h.pick [1, 2, 3] _ rfl)
  refine wp_region_linek (S := fun w' => Held w' [(g2, cvE (tn, tp, tr, tb, tk, sz, sc, br), 35), ((w.heap.size + 1), tqT (false, noP, noP), 27), (w.heap.size, aggT x, 25)]) [(false, 0), (true, 1), (true, 2), (false, 3), (false, 4)] HS.out ?_
  refine wk_now (some 48) ((ld_mid' (D := aggT rt) (k := 0) Tryz.underlying25 rfl Tryz.infoP (.head _) rfl) _ HG.out.h) (HG.out.h.pick [1, 2, 3] _ rfl) (by kernel_rfl) ?_
  refine sq_psk [(1, .pointer (some ⟨g2, 1, none⟩))] ?_
  refine sq_ldk (some 50) (wk_s (.head _) (k := 1) rfl) ?_
  refine sq_ck (some 51) Tryz.func51 (HNg.out _) ?_
  rintro e v6 ⟨rfl, bw⟩
  replace HG := Lib.hid (HG.out.on bw)
  clear bw
  refine ⟨_, rfl, (HG.out.h.pick [1, 2, 3] _ rfl), ?_⟩
  have HN := Lib.hid (HG.out.at 0 rfl)
  replace HG : Hid (Blks w (v6.setRow g5 (aggT ng)) [(g5, aggT ng, 25), (g2, cvE (tn, tp, tr, tb, tk, sz, sc, br), 35), ((w.heap.size + 1), tqT (false, noP, noP), 27), (w.heap.size, aggT x, 25)]) := Lib.hid (HG.out.put 0 rfl (aggT ng))
  refine sq_stk 25 g5 (aggT ng) HN.out Tryz.infoP rfl (HG.out.h.pick [1, 2, 3] _ rfl) ?_
  clear HN
  generalize World.setRow _ g5 _ = t7 at *
  refine sq_fink { tmps := List.toArray (List.append [.int .i64 id, .agg (aggT x), .bool true, undef, .pointer (some ⟨w.heap.size, 0, none⟩), undef, .pointer (some ⟨(w.heap.size + 1), 0, none⟩), .bool false, .pointer (some ⟨g2, 0, none⟩), .bool true, .pointer (some ⟨g5, 0, none⟩), .bool true, .tuple #[.agg (cvE (tn, tp, tr, tb, tk, sz, sc, br)), .bool true], .int .i64 id, .tuple #[.agg (cvE (tn, tp, tr, tb, tk, sz, sc, br)), .bool true], .agg (cvE (tn, tp, tr, tb, tk, sz, sc, br)), .bool true, .bool true, .bool false, .bool false, .agg (aggT x), .pointer (some ⟨g2, 1, none⟩), .string tp, .bool true, .bool false, .bool false, undef, .tuple #[.agg (aggT rt), .bool true], .int .i64 id, .agg (aggT x), .agg (aggT u), .pointer (some ⟨g2, 1, none⟩), .string tp, .tuple #[.agg (aggT rt), .bool true], .agg (aggT rt), .bool true, .bool true, .bool false, .bool false, .bool true] ([.bool true, .agg (aggT rt), .agg (aggT noP), .bool false, .bool false, .bool false, undef, .bool true, .agg (aggT rt), .pointer (some ⟨g2, 1, none⟩), .string tp, .agg (aggT ng), undef, undef, undef])), defers := [] } ?_
  refine ‹∀ a w, Code.wp _ _ _ a w → _› _ _ ?_
  go_upto_region 9 with (fail)
  replace HS : Hid (Held t7 [(g5, aggT ng, 25), (g2, cvE (tn, tp, tr, tb, tk, sz, sc, br), 35), (w.heap.size, aggT x, 25)]) := Lib.hid (HG.out.h.pick [0, 1, 3] _ rfl)
  refine wp_region_linek (S := fun w' => Held w' [(g5, aggT ng, 25), (g2, cvE (tn, tp, tr, tb, tk, sz, sc, br), 35), (w.heap.size, aggT x, 25)]) [(true, 0), (true, 1), (true, 2), (false, 3), (true, 4)] HS.out ?_
  refine sq_ldk (some 52) (ld_mid' (D := aggT x) (k := 0) Tryz.underlying25 rfl Tryz.infoP (.tail _ (.tail _ (.head _))) rfl) ?_
  refine sq_ldk (some 53) (ld_mid' (D := aggT ng) (k := 0) Tryz.underlying25 rfl Tryz.infoP (.head _) rfl) ?_
  refine sq_pure (some 54) (.agg (tqT (false, x, ng))) (by kernel_rfl) (by kernel_rfl) (held_build 27 #[(1, (.tmp 52)), (2, (.tmp 53))] (by kernel_rfl) _ (by kernel_rfl) _ (built_pq2 _ _)) ?_
  have HN := Lib.hid (HG.out.at 2 rfl)
  replace HG : Hid (Blks w (t7.setRow (w.heap.size + 1) (tqT (false, x, ng))) [(g5, aggT ng, 25), (g2, cvE (tn, tp, tr, tb, tk, sz, sc, br), 35), ((w.heap.size + 1), tqT (false, x, ng), 27), (w.heap.size, aggT x, 25)]) := Lib.hid (HG.out.put 2 rfl (tqT (false, x, ng)))
  refine sq_stk 27 (w.heap.size + 1) (tqT (false, x, ng)) HN.out Tryz.infoPq rfl (HG.out.h.pick [0, 1, 3] _ rfl) ?_
  clear HN
  generalize World.setRow _ (w.heap.size + 1) _ = t8 at *
  refine sq_psk [(4, .bool true)] ?_
  refine sq_done ?_
  refine ‹∀ a w, Code.wp _ Code.ret _ a w → _› _ _ ?_
  refine wp_ret ?_
  try refine wk_block ?_
  try refine wk_then ?_
  exact bodyPost_ret (res_ct (C := tqT (false, x, ng)) Tryz.underlying27 rfl Tryz.infoPq (HG.out.at 2 rfl) Tryz.results23 _ (by kernel_rfl) (v := .bool true) (by kernel_rfl)) (by kernel_rfl) ⟨rfl, HG.out.b⟩
end Go.Proofs.YtdajgcgliidjbaaGreat

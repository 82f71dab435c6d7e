import Derived.Test.YtdajgcgliidjbaaGreatZQp
import Derived.Test.YtdajgcgliidjbaaGreatWkB
import Derived.Test.YtdajgcgliidjbaaGreatZQb
import Derived.Test.YtdajgcgliidjbaaGreatYImpl
import Derived.Test.YtdajgcgliidjbaaGreatZPLaw
set_option maxRecDepth 8000
set_option maxHeartbeats 4000000
namespace Go.Proofs.YtdajgcgliidjbaaGreat
open Go.RowKit
def spE (q : Bool × (Pt × ByteArray) × (Pt × ByteArray)) : Array Value := #[.bool q.1, .string q.2.1.1.1, .string q.2.1.1.2, .string q.2.1.2, .string q.2.2.1.1, .string q.2.2.1.2, .string q.2.2.2]
theorem zero_spe (w : World) : (zeroValue 68).run Tryz.prog w = .ok (.agg (spE (false, (noP, ⟨#[]⟩), (noP, ⟨#[]⟩)))) w := by kernel_rfl
theorem Tryz.parts_spe : (structParts Tryz.prog 68).map (fun q => (q.1.cells.toList, q.2)) = some ([.bool false, .string noP.1, .string noP.2, .string ⟨#[]⟩, .string noP.1, .string noP.2, .string ⟨#[]⟩], [(0, 1), (1, 3), (4, 3)]) := by kernel_rfl
theorem built_spe_3 (a0 : Bool) (a1 : Pt × ByteArray) (a2 : Pt × ByteArray) : Tryz.prog.built 68 [(0, .bool a0), (1, .agg (aggC a1)), (2, .agg (aggC a2))] = some (spE (a0, a1, a2)) := by
 cases hq : structParts Tryz.prog 68 with
 | none => have e := Tryz.parts_spe; rw [hq] at e; cases e
 | some q =>
  obtain ⟨zz, pl⟩ := q
  have e := Tryz.parts_spe
  rw [hq] at e
  simp only [Option.map_some, Option.some.injEq, Prod.mk.injEq] at e
  obtain ⟨e1, rfl⟩ := e
  rw [built_parts hq]
  have ez : zz.cells = #[] ++ #[.bool false] ++ #[.string noP.1, .string noP.2, .string ⟨#[]⟩, .string noP.1, .string noP.2, .string ⟨#[]⟩] := Array.ext' (by rw [e1]; rfl)
  rw [ez, fill_step (R := #[.bool a0]) (off := 0) (n := 1) rfl rfl rfl rfl rfl]
  have e2 : (#[] ++ #[.bool a0] ++ #[.string noP.1, .string noP.2, .string ⟨#[]⟩, .string noP.1, .string noP.2, .string ⟨#[]⟩] : Array Value) = #[.bool a0] ++ #[.string noP.1, .string noP.2, .string ⟨#[]⟩] ++ #[.string noP.1, .string noP.2, .string ⟨#[]⟩] := rfl
  rw [e2, fill_step (R := aggC a1) (off := 1) (n := 3) rfl rfl rfl rfl rfl]
  have e3 : (#[.bool a0] ++ aggC a1 ++ #[.string noP.1, .string noP.2, .string ⟨#[]⟩] : Array Value) = #[.bool a0, .string a1.1.1, .string a1.1.2, .string a1.2] ++ #[.string noP.1, .string noP.2, .string ⟨#[]⟩] ++ #[] := rfl
  rw [e3, fill_step (R := aggC a2) (off := 4) (n := 3) rfl rfl rfl rfl rfl]
  rfl
theorem spE_plus (p : ByteArray) (z1 : Bool) (x1 y1 : Pt) (z2 : Bool) (x2 y2 : Pt) (w : World) : Calls Tryz.prog 37 #[.agg (spE (z1, (x1, p), (y1, p))), .agg (spE (z2, (x2, p), (y2, p)))] w fun e w' => (∃ q, e = .returned (.agg (spE ((plusQ p (z1, x1, y1) (z2, x2, y2)).1, ((plusQ p (z1, x1, y1) (z2, x2, y2)).2.1, q), ((plusQ p (z1, x1, y1) (z2, x2, y2)).2.2, q))))) ∧ Below w.heap.size w w' := spotQ_plus p (z1, x1, y1) (z2, x2, y2) w
def okQ (id : Int) (q : Tq) : Bool := if q.1 then cvB id && decide (q = (true, noP, noP)) else pairB q.2.1 (cvPT id) && (pairB q.2.2 (cvPT id) && decide (mulPG q.2.2 q.2.2 (cvPT id) = cube2G id q.2.1))
theorem pair_nomod (x : Pt) : pairB x ⟨#[]⟩ = false := by
 cases h : pairB x ⟨#[]⟩ with
 | false => rfl
 | true =>
  have := (modB_parts (pairB_parts h).1).2
  have e : gV ⟨#[]⟩ = 0 := rfl
  omega
theorem okQ_eq (id : Int) (q : Tq) : okQ id q = pairPtB id q := by
 obtain ⟨z, x, y⟩ := q
 unfold okQ pairPtB
 cases z with
 | true =>
  simp only [if_true]
  congr 1
  cases h1 : noneP x with
  | false => exact decide_eq_false (fun e => by
    have e2 : x = noP := congrArg (fun q : Tq => q.2.1) e
    rw [none_p.2 e2] at h1
    cases h1)
  | true =>
   cases h2 : noneP y with
   | false => exact decide_eq_false (fun e => by
     have e2 : y = noP := congrArg (fun q : Tq => q.2.2) e
     rw [none_p.2 e2] at h2
     cases h2)
   | true => exact decide_eq_true (by rw [none_p.1 h1, none_p.1 h2])
 | false =>
  simp only [Bool.false_eq_true, if_false]
  cases hc : cvB id with
  | false => rw [cvPT_no hc, pair_nomod, Bool.false_and, Bool.false_and]
  | true =>
   rw [Bool.true_and]
   cases hx : pairB x (cvPT id) with
   | false => rfl
   | true =>
    cases hy : pairB y (cvPT id) with
    | false => rfl
    | true =>
     simp only [Bool.true_and]
     unfold onPB
     have hm := (pairB_parts hx).1
     have e1 : mulPG y y (cvPT id) = txtP (mulP (gV (cvPT id)) (valP y) (valP y)) := by
      obtain ⟨iy, ey⟩ := pair_num hy
      conv => lhs; rw [ey]
      exact mul_txt hm iy iy
     rw [e1, ← cube2_of hc hx]
     by_cases h : mulP (gV (cvPT id)) (valP y) (valP y) = rightP (gV (cvPT id)) (valP (cvKT id)) (valP x)
     ·rw [decide_eq_true h, decide_eq_true (congrArg txtP h)]
     ·rw [decide_eq_false h, decide_eq_false (fun e => h (txtP_inj e))]
theorem pairPointOk_i (id : Int) (q : Tq) (w : World) : Calls Tryz.prog 10 #[.int .i64 id, .agg (tqT q)] w fun e w' => e = .returned (.bool (pairPtB id q)) ∧ Below w.heap.size w w' := by
 rw [← okQ_eq]
 obtain ⟨z, x, y⟩ := q
 have HK := Lib.hid (curveOf_i id)
 unfold okQ
 cases z with
 | true =>
  rw [if_pos rfl]
  obtain ⟨b, hb⟩ : ∃ b, decide (((true, x, y) : Tq) = (true, noP, noP)) = b := ⟨_, rfl⟩
  have HD := Lib.hid hb
  rw [hb]
  clear hb
  cases hf : cvB id with
  | false =>
   rw [hf] at HK
   rw [Bool.false_and]
   clear hf
   simp only [cvE_eq] at HK
   generalize cvNT id = tn at *
   generalize cvPT id = tp at *
   generalize cvRT id = tr at *
   generalize cvBT id = tb at *
   generalize cvKT id = tk at *
   generalize cvSz id = sz at *
   generalize cvSc id = sc at *
   generalize cvBr id = br at *
   have HG := Lib.hid (blks1 w (tqT (true, x, y)) 27)
   go_enter Tryz.func10, Tryz.ntmps10
   go_upto_region 1 with (fail)
   generalize w.alloc _ = w0 at *
   have HS := Lib.hid HG.out.h
   replace HS : Hid (Held w0 [(w.heap.size, tqT (true, x, y), 27)]) := Lib.hid (HG.out.h.pick [0] _ rfl)
   refine wp_region_linek (S := fun w' => Held w' [(w.heap.size, tqT (true, x, y), 27)]) [(true, 0), (false, 1), (true, 2), (true, 3), (true, 4), (false, 5), (false, 6), (true, 7)] HS.out ?_
   refine sq_psk [(0, .int .i64 id)] ?_
   refine sq_ck (some 9) Tryz.func35 (HK.out _) ?_
   rintro e v1 ⟨rfl, bw⟩
   replace HG := Lib.hid (HG.out.on bw)
   clear bw
   refine ⟨_, rfl, (HG.out.h.pick [0] _ rfl), ?_⟩
   refine sq_psk [(2, .tuple #[.agg (cvE (tn, tp, tr, tb, tk, sz, sc, br)), .bool false]), (3, .agg (cvE (tn, tp, tr, tb, tk, sz, sc, br))), (4, .bool false)] ?_
   replace HG := Lib.hid (HG.out.new (cvE (⟨#[]⟩, ⟨#[]⟩, ⟨#[]⟩, ⟨#[]⟩, noP, 0, 0, false)) 35)
   refine sq_allock (some 5) 35 (cvE (⟨#[]⟩, ⟨#[]⟩, ⟨#[]⟩, ⟨#[]⟩, noP, 0, 0, false)) (zero_cv _) (HG.out.h.pick [1] _ rfl) ?_
   generalize v1.alloc _ = u2 at *
   generalize v1.heap.size = g2 at *
   have HN := Lib.hid (HG.out.at 0 rfl)
   replace HG : Hid (Blks w (u2.setRow g2 (cvE (tn, tp, tr, tb, tk, sz, sc, br))) [(g2, cvE (tn, tp, tr, tb, tk, sz, sc, br), 35), (w.heap.size, tqT (true, x, y), 27)]) := Lib.hid (HG.out.put 0 rfl (cvE (tn, tp, tr, tb, tk, sz, sc, br)))
   refine sq_stk 35 g2 (cvE (tn, tp, tr, tb, tk, sz, sc, br)) HN.out Tryz.infoCv rfl (HG.out.h.pick [1] _ rfl) ?_
   clear HN
   generalize World.setRow _ g2 _ = t3 at *
   refine sq_psk [(7, .bool false)] ?_
   refine sq_fink { tmps := List.toArray (List.append [.int .i64 id, .agg (tqT (true, x, y)), undef, .pointer (some ⟨w.heap.size, 0, none⟩), .bool false, .pointer (some ⟨g2, 0, none⟩), .bool false, .tuple #[.agg (cvE (tn, tp, tr, tb, tk, sz, sc, br)), .bool false], .int .i64 id, .tuple #[.agg (cvE (tn, tp, tr, tb, tk, sz, sc, br)), .bool false], .agg (cvE (tn, tp, tr, tb, tk, sz, sc, br)), .bool false, undef, undef, undef, undef, undef, undef, undef, undef, undef, undef, undef, undef, undef, undef, undef, undef, undef, undef, undef, undef, undef, undef, undef, undef, undef, undef, undef, undef] ([undef, undef, undef, undef, undef, undef])), defers := [] } ?_
   refine ‹∀ a w, Code.wp _ _ _ a w → _› _ _ ?_
   go_upto_region 2 with (fail)
   replace HS : Hid (Held t3 [(g2, cvE (tn, tp, tr, tb, tk, sz, sc, br), 35), (w.heap.size, tqT (true, x, y), 27)]) := Lib.hid (HG.out.h.pick [0, 1] _ rfl)
   refine wp_region_linek (S := fun w' => Held w' [(g2, cvE (tn, tp, tr, tb, tk, sz, sc, br), 35), (w.heap.size, tqT (true, x, y), 27)]) [(true, 0), (true, 1)] HS.out ?_
   refine sq_psk [(0, .pointer (some ⟨w.heap.size, 0, none⟩))] ?_
   refine sq_ldk (some 13) (wk_b (.tail _ (.head _)) (k := 0) rfl) ?_
   refine sq_fink { tmps := List.toArray (List.append [.int .i64 id, .agg (tqT (true, x, y)), undef, .pointer (some ⟨w.heap.size, 0, none⟩), .bool false, .pointer (some ⟨g2, 0, none⟩), .bool false, .tuple #[.agg (cvE (tn, tp, tr, tb, tk, sz, sc, br)), .bool false], .int .i64 id, .tuple #[.agg (cvE (tn, tp, tr, tb, tk, sz, sc, br)), .bool false], .agg (cvE (tn, tp, tr, tb, tk, sz, sc, br)), .bool false, .pointer (some ⟨w.heap.size, 0, none⟩), .bool true, undef, undef, undef, undef, undef, undef, undef, undef, undef, undef, undef, undef, undef, undef, undef, undef, undef, undef, undef, undef, undef, undef, undef, undef, undef, undef] ([undef, undef, undef, undef, undef, undef])), defers := [] } ?_
   refine ‹∀ a w, Code.wp _ _ _ a w → _› _ _ ?_
   go_upto_region 3 with (fail)
   replace HS : Hid (Held t3 [(g2, cvE (tn, tp, tr, tb, tk, sz, sc, br), 35), (w.heap.size, tqT (true, x, y), 27)]) := Lib.hid (HG.out.h.pick [0, 1] _ rfl)
   refine wp_region_linek (S := fun w' => Held w' [(g2, cvE (tn, tp, tr, tb, tk, sz, sc, br), 35), (w.heap.size, tqT (true, x, y), 27)]) [(true, 0), (true, 1), (true, 2), (true, 3), (true, 4), (true, 5), (true, 6)] HS.out ?_
   refine SQ.out ?_
   refine g_psk [(0, .bool false), (1, .bool false)] ?_
   refine g_nok [2, 3, 4] ?_
   refine g_psk [(5, .bool false), (6, .bool false)] ?_
   refine g_done ?_
   refine ‹∀ a w, Code.wp _ Code.ret _ a w → _› _ _ ?_
   refine wp_ret ?_
   try refine wk_block ?_
   try refine wk_then ?_
   exact wk_ret (v := .bool false) Tryz.results10 (by kernel_rfl) (by kernel_rfl) ⟨rfl, HG.out.b⟩
  | true =>
   rw [hf] at HK
   rw [Bool.true_and]
   clear hf
   simp only [cvE_eq] at HK
   generalize cvNT id = tn at *
   generalize cvPT id = tp at *
   generalize cvRT id = tr at *
   generalize cvBT id = tb at *
   generalize cvKT id = tk at *
   generalize cvSz id = sz at *
   generalize cvSc id = sc at *
   generalize cvBr id = br at *
   have HG := Lib.hid (blks1 w (tqT (true, x, y)) 27)
   go_enter Tryz.func10, Tryz.ntmps10
   go_upto_region 1 with (fail)
   generalize w.alloc _ = w0 at *
   have HS := Lib.hid HG.out.h
   replace HS : Hid (Held w0 [(w.heap.size, tqT (true, x, y), 27)]) := Lib.hid (HG.out.h.pick [0] _ rfl)
   refine wp_region_linek (S := fun w' => Held w' [(w.heap.size, tqT (true, x, y), 27)]) [(true, 0), (false, 1), (true, 2), (true, 3), (true, 4), (false, 5), (false, 6), (true, 7)] HS.out ?_
   refine sq_psk [(0, .int .i64 id)] ?_
   refine sq_ck (some 9) Tryz.func35 (HK.out _) ?_
   rintro e v1 ⟨rfl, bw⟩
   replace HG := Lib.hid (HG.out.on bw)
   clear bw
   refine ⟨_, rfl, (HG.out.h.pick [0] _ rfl), ?_⟩
   refine sq_psk [(2, .tuple #[.agg (cvE (tn, tp, tr, tb, tk, sz, sc, br)), .bool true]), (3, .agg (cvE (tn, tp, tr, tb, tk, sz, sc, br))), (4, .bool true)] ?_
   replace HG := Lib.hid (HG.out.new (cvE (⟨#[]⟩, ⟨#[]⟩, ⟨#[]⟩, ⟨#[]⟩, noP, 0, 0, false)) 35)
   refine sq_allock (some 5) 35 (cvE (⟨#[]⟩, ⟨#[]⟩, ⟨#[]⟩, ⟨#[]⟩, noP, 0, 0, false)) (zero_cv _) (HG.out.h.pick [1] _ rfl) ?_
   generalize v1.alloc _ = u2 at *
   generalize v1.heap.size = g2 at *
   have HN := Lib.hid (HG.out.at 0 rfl)
   replace HG : Hid (Blks w (u2.setRow g2 (cvE (tn, tp, tr, tb, tk, sz, sc, br))) [(g2, cvE (tn, tp, tr, tb, tk, sz, sc, br), 35), (w.heap.size, tqT (true, x, y), 27)]) := Lib.hid (HG.out.put 0 rfl (cvE (tn, tp, tr, tb, tk, sz, sc, br)))
   refine sq_stk 35 g2 (cvE (tn, tp, tr, tb, tk, sz, sc, br)) HN.out Tryz.infoCv rfl (HG.out.h.pick [1] _ rfl) ?_
   clear HN
   generalize World.setRow _ g2 _ = t3 at *
   refine sq_psk [(7, .bool true)] ?_
   refine sq_fink { tmps := List.toArray (List.append [.int .i64 id, .agg (tqT (true, x, y)), undef, .pointer (some ⟨w.heap.size, 0, none⟩), .bool false, .pointer (some ⟨g2, 0, none⟩), .bool true, .tuple #[.agg (cvE (tn, tp, tr, tb, tk, sz, sc, br)), .bool true], .int .i64 id, .tuple #[.agg (cvE (tn, tp, tr, tb, tk, sz, sc, br)), .bool true], .agg (cvE (tn, tp, tr, tb, tk, sz, sc, br)), .bool true, undef, undef, undef, undef, undef, undef, undef, undef, undef, undef, undef, undef, undef, undef, undef, undef, undef, undef, undef, undef, undef, undef, undef, undef, undef, undef, undef, undef] ([undef, undef, undef, undef, undef, undef])), defers := [] } ?_
   refine ‹∀ a w, Code.wp _ _ _ a w → _› _ _ ?_
   go_upto_region 2 with (fail)
   replace HS : Hid (Held t3 [(g2, cvE (tn, tp, tr, tb, tk, sz, sc, br), 35), (w.heap.size, tqT (true, x, y), 27)]) := Lib.hid (HG.out.h.pick [0, 1] _ rfl)
   refine wp_region_linek (S := fun w' => Held w' [(g2, cvE (tn, tp, tr, tb, tk, sz, sc, br), 35), (w.heap.size, tqT (true, x, y), 27)]) [(true, 0), (true, 1)] HS.out ?_
   refine sq_psk [(0, .pointer (some ⟨w.heap.size, 0, none⟩))] ?_
   refine sq_ldk (some 13) (wk_b (.tail _ (.head _)) (k := 0) rfl) ?_
   refine sq_fink { tmps := List.toArray (List.append [.int .i64 id, .agg (tqT (true, x, y)), undef, .pointer (some ⟨w.heap.size, 0, none⟩), .bool false, .pointer (some ⟨g2, 0, none⟩), .bool true, .tuple #[.agg (cvE (tn, tp, tr, tb, tk, sz, sc, br)), .bool true], .int .i64 id, .tuple #[.agg (cvE (tn, tp, tr, tb, tk, sz, sc, br)), .bool true], .agg (cvE (tn, tp, tr, tb, tk, sz, sc, br)), .bool true, .pointer (some ⟨w.heap.size, 0, none⟩), .bool true, undef, undef, undef, undef, undef, undef, undef, undef, undef, undef, undef, undef, undef, undef, undef, undef, undef, undef, undef, undef, undef, undef, undef, undef, undef, undef] ([undef, undef, undef, undef, undef, undef])), defers := [] } ?_
   refine ‹∀ a w, Code.wp _ _ _ a w → _› _ _ ?_
   go_upto_region 3 with (fail)
   replace HS : Hid (Held t3 [(g2, cvE (tn, tp, tr, tb, tk, sz, sc, br), 35), (w.heap.size, tqT (true, x, y), 27)]) := Lib.hid (HG.out.h.pick [0, 1] _ rfl)
   refine wp_region_linek (S := fun w' => Held w' [(g2, cvE (tn, tp, tr, tb, tk, sz, sc, br), 35), (w.heap.size, tqT (true, x, y), 27)]) [(true, 0), (true, 1), (true, 2), (true, 3), (true, 4), (true, 5), (true, 6)] HS.out ?_
   refine SQ.out ?_
   refine g_psk [(0, .bool true), (1, .bool true)] ?_
   refine g_ldk (some 16) (ld_mid' (D := tqT (true, x, y)) (k := 0) Tryz.underlying27 rfl Tryz.infoPq (.tail _ (.head _)) rfl) ?_
   refine g_pure (some 17) (.agg (tqT (true, noP, noP))) (by kernel_rfl) (wanted_by (g := 1) (b := true) (d := 15) (by kernel_rfl) (by kernel_rfl) (by kernel_rfl) (by kernel_rfl)) (held_build 27 #[(0, (.const (.bool true)))] (by kernel_rfl) _ (by kernel_rfl) _ (built_pq_z _)) ?_
   refine g_take (some 18) (.bool b) (by kernel_rfl) (yields_eqPq (wanted_by (g := 1) (b := true) (d := 15) (by kernel_rfl) (by kernel_rfl) (by kernel_rfl) (by kernel_rfl)) (.tmp 16) (.tmp 17) (by kernel_rfl) (true, x, y) (true, noP, noP) b HD.out (by kernel_rfl) (by kernel_rfl)) ?_
   refine g_psk [(5, .bool b), (6, .bool b)] ?_
   refine g_done ?_
   refine ‹∀ a w, Code.wp _ Code.ret _ a w → _› _ _ ?_
   refine wp_ret ?_
   try refine wk_block ?_
   try refine wk_then ?_
   exact wk_ret (v := .bool b) Tryz.results10 (by kernel_rfl) (by kernel_rfl) ⟨rfl, HG.out.b⟩
 | false =>
  rw [if_neg Bool.false_ne_true]
  have RX := Lib.hid (pairOk_i x (cvPT id))
  have RY := Lib.hid (pairOk_i y (cvPT id))
  have HM := Lib.hid (mulPair_i y y (cvPT id))
  have HU := Lib.hid (cubeAndPair_i id x)
  obtain ⟨bo, hb⟩ : ∃ b, decide (mulPG y y (cvPT id) = cube2G id x) = b := ⟨_, rfl⟩
  have HD := Lib.hid hb
  simp only [hb]
  clear hb
  generalize mulPG y y (cvPT id) = m at *
  generalize cube2G id x = u at *
  generalize cvB id = found at *
  cases hx : pairB x (cvPT id) with
  | false =>
   rw [hx] at RX
   rw [Bool.false_and]
   clear hx
   simp only [cvE_eq] at HK
   generalize cvNT id = tn at *
   generalize cvPT id = tp at *
   generalize cvRT id = tr at *
   generalize cvBT id = tb at *
   generalize cvKT id = tk at *
   generalize cvSz id = sz at *
   generalize cvSc id = sc at *
   generalize cvBr id = br at *
   have HG := Lib.hid (blks1 w (tqT (false, x, y)) 27)
   go_enter Tryz.func10, Tryz.ntmps10
   go_upto_region 1 with (fail)
   generalize w.alloc _ = w0 at *
   have HS := Lib.hid HG.out.h
   replace HS : Hid (Held w0 [(w.heap.size, tqT (false, x, y), 27)]) := Lib.hid (HG.out.h.pick [0] _ rfl)
   refine wp_region_linek (S := fun w' => Held w' [(w.heap.size, tqT (false, x, y), 27)]) [(true, 0), (false, 1), (true, 2), (true, 3), (true, 4), (false, 5), (false, 6), (true, 7)] HS.out ?_
   refine sq_psk [(0, .int .i64 id)] ?_
   refine sq_ck (some 9) Tryz.func35 (HK.out _) ?_
   rintro e v1 ⟨rfl, bw⟩
   replace HG := Lib.hid (HG.out.on bw)
   clear bw
   refine ⟨_, rfl, (HG.out.h.pick [0] _ rfl), ?_⟩
   refine sq_psk [(2, .tuple #[.agg (cvE (tn, tp, tr, tb, tk, sz, sc, br)), .bool found]), (3, .agg (cvE (tn, tp, tr, tb, tk, sz, sc, br))), (4, .bool found)] ?_
   replace HG := Lib.hid (HG.out.new (cvE (⟨#[]⟩, ⟨#[]⟩, ⟨#[]⟩, ⟨#[]⟩, noP, 0, 0, false)) 35)
   refine sq_allock (some 5) 35 (cvE (⟨#[]⟩, ⟨#[]⟩, ⟨#[]⟩, ⟨#[]⟩, noP, 0, 0, false)) (zero_cv _) (HG.out.h.pick [1] _ rfl) ?_
   generalize v1.alloc _ = u2 at *
   generalize v1.heap.size = g2 at *
   have HN := Lib.hid (HG.out.at 0 rfl)
   replace HG : Hid (Blks w (u2.setRow g2 (cvE (tn, tp, tr, tb, tk, sz, sc, br))) [(g2, cvE (tn, tp, tr, tb, tk, sz, sc, br), 35), (w.heap.size, tqT (false, x, y), 27)]) := Lib.hid (HG.out.put 0 rfl (cvE (tn, tp, tr, tb, tk, sz, sc, br)))
   refine sq_stk 35 g2 (cvE (tn, tp, tr, tb, tk, sz, sc, br)) HN.out Tryz.infoCv rfl (HG.out.h.pick [1] _ rfl) ?_
   clear HN
   generalize World.setRow _ g2 _ = t3 at *
   refine sq_psk [(7, .bool found)] ?_
   refine sq_fink { tmps := List.toArray (List.append [.int .i64 id, .agg (tqT (false, x, y)), undef, .pointer (some ⟨w.heap.size, 0, none⟩), .bool false, .pointer (some ⟨g2, 0, none⟩), .bool found, .tuple #[.agg (cvE (tn, tp, tr, tb, tk, sz, sc, br)), .bool found], .int .i64 id, .tuple #[.agg (cvE (tn, tp, tr, tb, tk, sz, sc, br)), .bool found], .agg (cvE (tn, tp, tr, tb, tk, sz, sc, br)), .bool found, undef, undef, undef, undef, undef, undef, undef, undef, undef, undef, undef, undef, undef, undef, undef, undef, undef, undef, undef, undef, undef, undef, undef, undef, undef, undef, undef, undef] ([undef, undef, undef, undef, undef, undef])), defers := [] } ?_
   refine ‹∀ a w, Code.wp _ _ _ a w → _› _ _ ?_
   go_upto_region 2 with (fail)
   replace HS : Hid (Held t3 [(g2, cvE (tn, tp, tr, tb, tk, sz, sc, br), 35), (w.heap.size, tqT (false, x, y), 27)]) := Lib.hid (HG.out.h.pick [0, 1] _ rfl)
   refine wp_region_linek (S := fun w' => Held w' [(g2, cvE (tn, tp, tr, tb, tk, sz, sc, br), 35), (w.heap.size, tqT (false, x, y), 27)]) [(true, 0), (true, 1)] HS.out ?_
   refine sq_psk [(0, .pointer (some ⟨w.heap.size, 0, none⟩))] ?_
   refine sq_ldk (some 13) (wk_b (.tail _ (.head _)) (k := 0) rfl) ?_
   refine sq_fink { tmps := List.toArray (List.append [.int .i64 id, .agg (tqT (false, x, y)), undef, .pointer (some ⟨w.heap.size, 0, none⟩), .bool false, .pointer (some ⟨g2, 0, none⟩), .bool found, .tuple #[.agg (cvE (tn, tp, tr, tb, tk, sz, sc, br)), .bool found], .int .i64 id, .tuple #[.agg (cvE (tn, tp, tr, tb, tk, sz, sc, br)), .bool found], .agg (cvE (tn, tp, tr, tb, tk, sz, sc, br)), .bool found, .pointer (some ⟨w.heap.size, 0, none⟩), .bool false, undef, undef, undef, undef, undef, undef, undef, undef, undef, undef, undef, undef, undef, undef, undef, undef, undef, undef, undef, undef, undef, undef, undef, undef, undef, undef] ([undef, undef, undef, undef, undef, undef])), defers := [] } ?_
   refine ‹∀ a w, Code.wp _ _ _ a w → _› _ _ ?_
   go_upto_region 4 with (fail)
   replace HS : Hid (Held t3 [(g2, cvE (tn, tp, tr, tb, tk, sz, sc, br), 35), (w.heap.size, tqT (false, x, y), 27)]) := Lib.hid (HG.out.h.pick [0, 1] _ rfl)
   replace HG := Lib.hid HG.out.drew
   replace HS := Lib.hid HS.out.drew
   refine sq_gok (S := fun w' => Held w' [(g2, cvE (tn, tp, tr, tb, tk, sz, sc, br), 35), (w.heap.size, tqT (false, x, y), 27)]) [(true, 0), (true, 1), (true, 2), (true, 3), (false, 4), (true, 5), (true, 6), (true, 7), (true, 8), (true, 9), (true, 10), (true, 11), (true, 12), (true, 13), (true, 14), (true, 15), (true, 16), (true, 17), (true, 18), (true, 19), (true, 20), (true, 21), (true, 22), (true, 23), (true, 24), (true, 25), (true, 26)] HS.out ?_
   refine SQ.out ?_
   refine g_psk [(0, .pointer (some ⟨w.heap.size, 1, none⟩))] ?_
   refine g_ldk (some 21) (ld_mid' (D := aggT x) (k := 1) Tryz.underlying25 rfl Tryz.infoP (.tail _ (.head _)) rfl) ?_
   refine g_psk [(2, .pointer (some ⟨g2, 1, none⟩))] ?_
   refine g_ldk (some 23) (wk_s (.head _) (k := 1) rfl) ?_
   refine g_ck (some 24) Tryz.func38 (RX.out _) ?_
   rintro e v4 ⟨rfl, bw⟩
   replace HG := Lib.hid (HG.out.on bw)
   clear bw
   refine ⟨_, rfl, (HG.out.h.pick [0, 1] _ rfl), ?_⟩
   refine g_psk [(5, .bool false)] ?_
   refine g_nok [6, 7, 8, 9, 10] ?_
   refine g_psk [(11, .bool false), (12, .bool false)] ?_
   refine g_nok [13, 14, 15, 16, 17, 18, 19, 20, 21, 22, 23, 24] ?_
   refine g_psk [(25, .bool false), (26, .bool false)] ?_
   refine g_done ?_
   refine ‹∀ a w, Code.wp _ Code.ret _ a w → _› _ _ ?_
   refine wp_ret ?_
   try refine wk_block ?_
   try refine wk_then ?_
   exact wk_ret (v := .bool false) Tryz.results10 (by kernel_rfl) (by kernel_rfl) ⟨rfl, HG.out.b⟩
  | true =>
   rw [hx] at RX
   rw [Bool.true_and]
   cases hy : pairB y (cvPT id) with
   | false =>
    rw [hy] at RY
    rw [Bool.false_and]
    clear hx hy
    simp only [cvE_eq] at HK
    generalize cvNT id = tn at *
    generalize cvPT id = tp at *
    generalize cvRT id = tr at *
    generalize cvBT id = tb at *
    generalize cvKT id = tk at *
    generalize cvSz id = sz at *
    generalize cvSc id = sc at *
    generalize cvBr id = br at *
    have HG := Lib.hid (blks1 w (tqT (false, x, y)) 27)
    go_enter Tryz.func10, Tryz.ntmps10
    go_upto_region 1 with (fail)
    generalize w.alloc _ = w0 at *
    have HS := Lib.hid HG.out.h
    replace HS : Hid (Held w0 [(w.heap.size, tqT (false, x, y), 27)]) := Lib.hid (HG.out.h.pick [0] _ rfl)
    refine wp_region_linek (S := fun w' => Held w' [(w.heap.size, tqT (false, x, y), 27)]) [(true, 0), (false, 1), (true, 2), (true, 3), (true, 4), (false, 5), (false, 6), (true, 7)] HS.out ?_
    refine sq_psk [(0, .int .i64 id)] ?_
    refine sq_ck (some 9) Tryz.func35 (HK.out _) ?_
    rintro e v1 ⟨rfl, bw⟩
    replace HG := Lib.hid (HG.out.on bw)
    clear bw
    refine ⟨_, rfl, (HG.out.h.pick [0] _ rfl), ?_⟩
    refine sq_psk [(2, .tuple #[.agg (cvE (tn, tp, tr, tb, tk, sz, sc, br)), .bool found]), (3, .agg (cvE (tn, tp, tr, tb, tk, sz, sc, br))), (4, .bool found)] ?_
    replace HG := Lib.hid (HG.out.new (cvE (⟨#[]⟩, ⟨#[]⟩, ⟨#[]⟩, ⟨#[]⟩, noP, 0, 0, false)) 35)
    refine sq_allock (some 5) 35 (cvE (⟨#[]⟩, ⟨#[]⟩, ⟨#[]⟩, ⟨#[]⟩, noP, 0, 0, false)) (zero_cv _) (HG.out.h.pick [1] _ rfl) ?_
    generalize v1.alloc _ = u2 at *
    generalize v1.heap.size = g2 at *
    have HN := Lib.hid (HG.out.at 0 rfl)
    replace HG : Hid (Blks w (u2.setRow g2 (cvE (tn, tp, tr, tb, tk, sz, sc, br))) [(g2, cvE (tn, tp, tr, tb, tk, sz, sc, br), 35), (w.heap.size, tqT (false, x, y), 27)]) := Lib.hid (HG.out.put 0 rfl (cvE (tn, tp, tr, tb, tk, sz, sc, br)))
    refine sq_stk 35 g2 (cvE (tn, tp, tr, tb, tk, sz, sc, br)) HN.out Tryz.infoCv rfl (HG.out.h.pick [1] _ rfl) ?_
    clear HN
    generalize World.setRow _ g2 _ = t3 at *
    refine sq_psk [(7, .bool found)] ?_
    refine sq_fink { tmps := List.toArray (List.append [.int .i64 id, .agg (tqT (false, x, y)), undef, .pointer (some ⟨w.heap.size, 0, none⟩), .bool false, .pointer (some ⟨g2, 0, none⟩), .bool found, .tuple #[.agg (cvE (tn, tp, tr, tb, tk, sz, sc, br)), .bool found], .int .i64 id, .tuple #[.agg (cvE (tn, tp, tr, tb, tk, sz, sc, br)), .bool found], .agg (cvE (tn, tp, tr, tb, tk, sz, sc, br)), .bool found, undef, undef, undef, undef, undef, undef, undef, undef, undef, undef, undef, undef, undef, undef, undef, undef, undef, undef, undef, undef, undef, undef, undef, undef, undef, undef, undef, undef] ([undef, undef, undef, undef, undef, undef])), defers := [] } ?_
    refine ‹∀ a w, Code.wp _ _ _ a w → _› _ _ ?_
    go_upto_region 2 with (fail)
    replace HS : Hid (Held t3 [(g2, cvE (tn, tp, tr, tb, tk, sz, sc, br), 35), (w.heap.size, tqT (false, x, y), 27)]) := Lib.hid (HG.out.h.pick [0, 1] _ rfl)
    refine wp_region_linek (S := fun w' => Held w' [(g2, cvE (tn, tp, tr, tb, tk, sz, sc, br), 35), (w.heap.size, tqT (false, x, y), 27)]) [(true, 0), (true, 1)] HS.out ?_
    refine sq_psk [(0, .pointer (some ⟨w.heap.size, 0, none⟩))] ?_
    refine sq_ldk (some 13) (wk_b (.tail _ (.head _)) (k := 0) rfl) ?_
    refine sq_fink { tmps := List.toArray (List.append [.int .i64 id, .agg (tqT (false, x, y)), undef, .pointer (some ⟨w.heap.size, 0, none⟩), .bool false, .pointer (some ⟨g2, 0, none⟩), .bool found, .tuple #[.agg (cvE (tn, tp, tr, tb, tk, sz, sc, br)), .bool found], .int .i64 id, .tuple #[.agg (cvE (tn, tp, tr, tb, tk, sz, sc, br)), .bool found], .agg (cvE (tn, tp, tr, tb, tk, sz, sc, br)), .bool found, .pointer (some ⟨w.heap.size, 0, none⟩), .bool false, undef, undef, undef, undef, undef, undef, undef, undef, undef, undef, undef, undef, undef, undef, undef, undef, undef, undef, undef, undef, undef, undef, undef, undef, undef, undef] ([undef, undef, undef, undef, undef, undef])), defers := [] } ?_
    refine ‹∀ a w, Code.wp _ _ _ a w → _› _ _ ?_
    go_upto_region 4 with (fail)
    replace HS : Hid (Held t3 [(g2, cvE (tn, tp, tr, tb, tk, sz, sc, br), 35), (w.heap.size, tqT (false, x, y), 27)]) := Lib.hid (HG.out.h.pick [0, 1] _ rfl)
    replace HG := Lib.hid HG.out.drew
    replace HS := Lib.hid HS.out.drew
    refine sq_gok (S := fun w' => Held w' [(g2, cvE (tn, tp, tr, tb, tk, sz, sc, br), 35), (w.heap.size, tqT (false, x, y), 27)]) [(true, 0), (true, 1), (true, 2), (true, 3), (false, 4), (true, 5), (true, 6), (true, 7), (true, 8), (true, 9), (false, 10), (true, 11), (true, 12), (true, 13), (true, 14), (true, 15), (true, 16), (true, 17), (true, 18), (true, 19), (true, 20), (true, 21), (true, 22), (true, 23), (true, 24), (true, 25), (true, 26)] HS.out ?_
    refine SQ.out ?_
    refine g_psk [(0, .pointer (some ⟨w.heap.size, 1, none⟩))] ?_
    refine g_ldk (some 21) (ld_mid' (D := aggT x) (k := 1) Tryz.underlying25 rfl Tryz.infoP (.tail _ (.head _)) rfl) ?_
    refine g_psk [(2, .pointer (some ⟨g2, 1, none⟩))] ?_
    refine g_ldk (some 23) (wk_s (.head _) (k := 1) rfl) ?_
    refine g_ck (some 24) Tryz.func38 (RX.out _) ?_
    rintro e v4 ⟨rfl, bw⟩
    replace HG := Lib.hid (HG.out.on bw)
    clear bw
    refine ⟨_, rfl, (HG.out.h.pick [0, 1] _ rfl), ?_⟩
    refine g_psk [(5, .bool true), (6, .pointer (some ⟨w.heap.size, 3, none⟩))] ?_
    refine g_ldk (some 27) (ld_mid' (D := aggT y) (k := 3) Tryz.underlying25 rfl Tryz.infoP (.tail _ (.head _)) rfl) ?_
    refine g_psk [(8, .pointer (some ⟨g2, 1, none⟩))] ?_
    refine g_ldk (some 29) (wk_s (.head _) (k := 1) rfl) ?_
    refine g_ck (some 30) Tryz.func38 (RY.out _) ?_
    rintro e v5 ⟨rfl, bw⟩
    replace HG := Lib.hid (HG.out.on bw)
    clear bw
    refine ⟨_, rfl, (HG.out.h.pick [0, 1] _ rfl), ?_⟩
    refine g_psk [(11, .bool false), (12, .bool false)] ?_
    refine g_nok [13, 14, 15, 16, 17, 18, 19, 20, 21, 22, 23, 24] ?_
    refine g_psk [(25, .bool false), (26, .bool false)] ?_
    refine g_done ?_
    refine ‹∀ a w, Code.wp _ Code.ret _ a w → _› _ _ ?_
    refine wp_ret ?_
    try refine wk_block ?_
    try refine wk_then ?_
    exact wk_ret (v := .bool false) Tryz.results10 (by kernel_rfl) (by kernel_rfl) ⟨rfl, HG.out.b⟩
   | true =>
    rw [hy] at RY
    rw [Bool.true_and]
    clear hx hy
    simp only [cvE_eq] at HK
    generalize cvNT id = tn at *
    generalize cvPT id = tp at *
    generalize cvRT id = tr at *
    generalize cvBT id = tb at *
    generalize cvKT id = tk at *
    generalize cvSz id = sz at *
    generalize cvSc id = sc at *
    generalize cvBr id = br at *
    have HG := Lib.hid (blks1 w (tqT (false, x, y)) 27)
    go_enter Tryz.func10, Tryz.ntmps10
    go_upto_region 1 with (fail)
    generalize w.alloc _ = w0 at *
    have HS := Lib.hid HG.out.h
    replace HS : Hid (Held w0 [(w.heap.size, tqT (false, x, y), 27)]) := Lib.hid (HG.out.h.pick [0] _ rfl)
    refine wp_region_linek (S := fun w' => Held w' [(w.heap.size, tqT (false, x, y), 27)]) [(true, 0), (false, 1), (true, 2), (true, 3), (true, 4), (false, 5), (false, 6), (true, 7)] HS.out ?_
    refine sq_psk [(0, .int .i64 id)] ?_
    refine sq_ck (some 9) Tryz.func35 (HK.out _) ?_
    rintro e v1 ⟨rfl, bw⟩
    replace HG := Lib.hid (HG.out.on bw)
    clear bw
    refine ⟨_, rfl, (HG.out.h.pick [0] _ rfl), ?_⟩
    refine sq_psk [(2, .tuple #[.agg (cvE (tn, tp, tr, tb, tk, sz, sc, br)), .bool found]), (3, .agg (cvE (tn, tp, tr, tb, tk, sz, sc, br))), (4, .bool found)] ?_
    replace HG := Lib.hid (HG.out.new (cvE (⟨#[]⟩, ⟨#[]⟩, ⟨#[]⟩, ⟨#[]⟩, noP, 0, 0, false)) 35)
    refine sq_allock (some 5) 35 (cvE (⟨#[]⟩, ⟨#[]⟩, ⟨#[]⟩, ⟨#[]⟩, noP, 0, 0, false)) (zero_cv _) (HG.out.h.pick [1] _ rfl) ?_
    generalize v1.alloc _ = u2 at *
    generalize v1.heap.size = g2 at *
    have HN := Lib.hid (HG.out.at 0 rfl)
    replace HG : Hid (Blks w (u2.setRow g2 (cvE (tn, tp, tr, tb, tk, sz, sc, br))) [(g2, cvE (tn, tp, tr, tb, tk, sz, sc, br), 35), (w.heap.size, tqT (false, x, y), 27)]) := Lib.hid (HG.out.put 0 rfl (cvE (tn, tp, tr, tb, tk, sz, sc, br)))
    refine sq_stk 35 g2 (cvE (tn, tp, tr, tb, tk, sz, sc, br)) HN.out Tryz.infoCv rfl (HG.out.h.pick [1] _ rfl) ?_
    clear HN
    generalize World.setRow _ g2 _ = t3 at *
    refine sq_psk [(7, .bool found)] ?_
    refine sq_fink { tmps := List.toArray (List.append [.int .i64 id, .agg (tqT (false, x, y)), undef, .pointer (some ⟨w.heap.size, 0, none⟩), .bool false, .pointer (some ⟨g2, 0, none⟩), .bool found, .tuple #[.agg (cvE (tn, tp, tr, tb, tk, sz, sc, br)), .bool found], .int .i64 id, .tuple #[.agg (cvE (tn, tp, tr, tb, tk, sz, sc, br)), .bool found], .agg (cvE (tn, tp, tr, tb, tk, sz, sc, br)), .bool found, undef, undef, undef, undef, undef, undef, undef, undef, undef, undef, undef, undef, undef, undef, undef, undef, undef, undef, undef, undef, undef, undef, undef, undef, undef, undef, undef, undef] ([undef, undef, undef, undef, undef, undef])), defers := [] } ?_
    refine ‹∀ a w, Code.wp _ _ _ a w → _› _ _ ?_
    go_upto_region 2 with (fail)
    replace HS : Hid (Held t3 [(g2, cvE (tn, tp, tr, tb, tk, sz, sc, br), 35), (w.heap.size, tqT (false, x, y), 27)]) := Lib.hid (HG.out.h.pick [0, 1] _ rfl)
    refine wp_region_linek (S := fun w' => Held w' [(g2, cvE (tn, tp, tr, tb, tk, sz, sc, br), 35), (w.heap.size, tqT (false, x, y), 27)]) [(true, 0), (true, 1)] HS.out ?_
    refine sq_psk [(0, .pointer (some ⟨w.heap.size, 0, none⟩))] ?_
    refine sq_ldk (some 13) (wk_b (.tail _ (.head _)) (k := 0) rfl) ?_
    refine sq_fink { tmps := List.toArray (List.append [.int .i64 id, .agg (tqT (false, x, y)), undef, .pointer (some ⟨w.heap.size, 0, none⟩), .bool false, .pointer (some ⟨g2, 0, none⟩), .bool found, .tuple #[.agg (cvE (tn, tp, tr, tb, tk, sz, sc, br)), .bool found], .int .i64 id, .tuple #[.agg (cvE (tn, tp, tr, tb, tk, sz, sc, br)), .bool found], .agg (cvE (tn, tp, tr, tb, tk, sz, sc, br)), .bool found, .pointer (some ⟨w.heap.size, 0, none⟩), .bool false, undef, undef, undef, undef, undef, undef, undef, undef, undef, undef, undef, undef, undef, undef, undef, undef, undef, undef, undef, undef, undef, undef, undef, undef, undef, undef] ([undef, undef, undef, undef, undef, undef])), defers := [] } ?_
    refine ‹∀ a w, Code.wp _ _ _ a w → _› _ _ ?_
    go_upto_region 4 with (fail)
    replace HS : Hid (Held t3 [(g2, cvE (tn, tp, tr, tb, tk, sz, sc, br), 35), (w.heap.size, tqT (false, x, y), 27)]) := Lib.hid (HG.out.h.pick [0, 1] _ rfl)
    replace HG := Lib.hid HG.out.drew
    replace HS := Lib.hid HS.out.drew
    refine sq_gok (S := fun w' => Held w' [(g2, cvE (tn, tp, tr, tb, tk, sz, sc, br), 35), (w.heap.size, tqT (false, x, y), 27)]) [(true, 0), (true, 1), (true, 2), (true, 3), (false, 4), (true, 5), (true, 6), (true, 7), (true, 8), (true, 9), (false, 10), (true, 11), (true, 12), (true, 13), (true, 14), (true, 15), (true, 16), (true, 17), (true, 18), (true, 20), (true, 21), (true, 22), (false, 19), (false, 23), (true, 24), (true, 25), (true, 26)] HS.out ?_
    refine SQ.out ?_
    refine g_psk [(0, .pointer (some ⟨w.heap.size, 1, none⟩))] ?_
    refine g_ldk (some 21) (ld_mid' (D := aggT x) (k := 1) Tryz.underlying25 rfl Tryz.infoP (.tail _ (.head _)) rfl) ?_
    refine g_psk [(2, .pointer (some ⟨g2, 1, none⟩))] ?_
    refine g_ldk (some 23) (wk_s (.head _) (k := 1) rfl) ?_
    refine g_ck (some 24) Tryz.func38 (RX.out _) ?_
    rintro e v4 ⟨rfl, bw⟩
    replace HG := Lib.hid (HG.out.on bw)
    clear bw
    refine ⟨_, rfl, (HG.out.h.pick [0, 1] _ rfl), ?_⟩
    refine g_psk [(5, .bool true), (6, .pointer (some ⟨w.heap.size, 3, none⟩))] ?_
    refine g_ldk (some 27) (ld_mid' (D := aggT y) (k := 3) Tryz.underlying25 rfl Tryz.infoP (.tail _ (.head _)) rfl) ?_
    refine g_psk [(8, .pointer (some ⟨g2, 1, none⟩))] ?_
    refine g_ldk (some 29) (wk_s (.head _) (k := 1) rfl) ?_
    refine g_ck (some 30) Tryz.func38 (RY.out _) ?_
    rintro e v5 ⟨rfl, bw⟩
    replace HG := Lib.hid (HG.out.on bw)
    clear bw
    refine ⟨_, rfl, (HG.out.h.pick [0, 1] _ rfl), ?_⟩
    refine g_psk [(11, .bool true), (12, .bool true), (13, .pointer (some ⟨w.heap.size, 3, none⟩))] ?_
    refine g_ldk (some 34) (ld_mid' (D := aggT y) (k := 3) Tryz.underlying25 rfl Tryz.infoP (.tail _ (.head _)) rfl) ?_
    refine g_psk [(15, .pointer (some ⟨w.heap.size, 3, none⟩))] ?_
    refine g_ldk (some 36) (ld_mid' (D := aggT y) (k := 3) Tryz.underlying25 rfl Tryz.infoP (.tail _ (.head _)) rfl) ?_
    refine g_psk [(17, .pointer (some ⟨g2, 1, none⟩))] ?_
    refine g_ldk (some 38) (wk_s (.head _) (k := 1) rfl) ?_
    refine g_psk [(20, .int .i64 id), (21, .pointer (some ⟨w.heap.size, 1, none⟩))] ?_
    refine g_ldk (some 42) (ld_mid' (D := aggT x) (k := 1) Tryz.underlying25 rfl Tryz.infoP (.tail _ (.head _)) rfl) ?_
    refine g_ck (some 39) Tryz.func39 (HM.out _) ?_
    rintro e v6 ⟨rfl, bw⟩
    replace HG := Lib.hid (HG.out.on bw)
    clear bw
    refine ⟨_, rfl, (HG.out.h.pick [0, 1] _ rfl), ?_⟩
    refine g_ck (some 43) Tryz.func40 (HU.out _) ?_
    rintro e v7 ⟨rfl, bw⟩
    replace HG := Lib.hid (HG.out.on bw)
    clear bw
    refine ⟨_, rfl, (HG.out.h.pick [0, 1] _ rfl), ?_⟩
    refine g_take (some 44) (.bool bo) (by kernel_rfl) (eq_pr (wanted_by (g := 12) (b := true) (d := 32) (by kernel_rfl) (by kernel_rfl) (by kernel_rfl) (by kernel_rfl)) (.tmp 39) (.tmp 43) (by kernel_rfl) m u bo HD.out (by kernel_rfl) (by kernel_rfl)) ?_
    refine g_psk [(25, .bool bo), (26, .bool bo)] ?_
    refine g_done ?_
    refine ‹∀ a w, Code.wp _ Code.ret _ a w → _› _ _ ?_
    refine wp_ret ?_
    try refine wk_block ?_
    try refine wk_then ?_
    exact wk_ret (v := .bool bo) Tryz.results10 (by kernel_rfl) (by kernel_rfl) ⟨rfl, HG.out.b⟩
theorem pairSpot_i (q : Tq) (p : ByteArray) (w : World) : Calls Tryz.prog 36 #[.agg (tqT q), .string p] w fun e w' => e = .returned (.agg (spE (q.1, (q.2.1, p), (q.2.2, p)))) ∧ Below w.heap.size w w' := by
 obtain ⟨z, x, y⟩ := q
 have HG := Lib.hid (blks2 w (tqT (z, x, y)) (#[.bool false, .string ⟨#[]⟩, .string ⟨#[]⟩, .string ⟨#[]⟩, .string ⟨#[]⟩, .string ⟨#[]⟩, .string ⟨#[]⟩]) 27 68)
 go_enter Tryz.func36, Tryz.ntmps36
 go_upto_region 1 with (fail)
 generalize (w.alloc _).alloc _ = w0 at *
 replace HG : Hid (Blks w w0 [(w.heap.size + 1, spE (false, (noP, ⟨#[]⟩), (noP, ⟨#[]⟩)), 68), (w.heap.size, tqT (z, x, y), 27)]) := HG
 have HS := Lib.hid HG.out.h
 replace HS : Hid (Held w0 [(w.heap.size, tqT (z, x, y), 27)]) := Lib.hid (HG.out.h.pick [1] _ rfl)
 refine wp_region_linek (S := fun w' => Held w' [(w.heap.size, tqT (z, x, y), 27)]) [(true, 0), (true, 1), (true, 2), (true, 3), (true, 4), (true, 5), (true, 6), (true, 7), (true, 8), (true, 9), (true, 10), (false, 11)] HS.out ?_
 refine sq_psk [(0, .pointer (some ⟨w.heap.size, 0, none⟩))] ?_
 refine sq_ldk (some 6) (wk_b (.head _) (k := 0) rfl) ?_
 refine sq_psk [(2, .pointer (some ⟨w.heap.size, 1, none⟩))] ?_
 refine sq_ldk (some 8) (ld_mid' (D := aggT x) (k := 1) Tryz.underlying25 rfl Tryz.infoP (.head _) rfl) ?_
 refine sq_psk [(4, .string p)] ?_
 refine sq_pure (some 10) (.agg (aggC (x, p))) (by kernel_rfl) (by kernel_rfl) (held_build 66 #[(0, (.tmp 8)), (1, (.tmp 9))] (by kernel_rfl) _ (by kernel_rfl) _ (built_rq _ _)) ?_
 refine sq_psk [(6, .pointer (some ⟨w.heap.size, 3, none⟩))] ?_
 refine sq_ldk (some 12) (ld_mid' (D := aggT y) (k := 3) Tryz.underlying25 rfl Tryz.infoP (.head _) rfl) ?_
 refine sq_psk [(8, .string p)] ?_
 refine sq_pure (some 14) (.agg (aggC (y, p))) (by kernel_rfl) (by kernel_rfl) (held_build 66 #[(0, (.tmp 12)), (1, (.tmp 13))] (by kernel_rfl) _ (by kernel_rfl) _ (built_rq _ _)) ?_
 refine sq_pure (some 15) (.agg (spE (z, (x, p), (y, p)))) (by kernel_rfl) (by kernel_rfl) (held_build 68 #[(0, (.tmp 6)), (1, (.tmp 10)), (2, (.tmp 14))] (by kernel_rfl) _ (by kernel_rfl) _ (built_spe_3 _ _ _)) ?_
 have HN := Lib.hid (HG.out.at 0 rfl)
 replace HG : Hid (Blks w (w0.setRow (w.heap.size + 1) (spE (z, (x, p), (y, p)))) [((w.heap.size + 1), spE (z, (x, p), (y, p)), 68), (w.heap.size, tqT (z, x, y), 27)]) := Lib.hid (HG.out.put 0 rfl (spE (z, (x, p), (y, p))))
 refine sq_stk 68 (w.heap.size + 1) (spE (z, (x, p), (y, p))) HN.out Tryz.infoSPq rfl (HG.out.h.pick [1] _ rfl) ?_
 clear HN
 generalize World.setRow _ (w.heap.size + 1) _ = t1 at *
 refine sq_done ?_
 refine ‹∀ a w, Code.wp _ Code.ret _ a w → _› _ _ ?_
 refine wp_ret ?_
 try refine wk_block ?_
 try refine wk_then ?_
 exact bodyPost_ret (results_cell_row Tryz.results36 _ _ (w.heap.size + 1) _ _ _ _ (by kernel_rfl) (HG.out.at 0 rfl) Tryz.underlying68 rfl Tryz.infoSPq) (by kernel_rfl) ⟨rfl, HG.out.b⟩
theorem addPairPoint_i (id : Int) (a b : Tq) (w : World) : Calls Tryz.prog 9 #[.int .i64 id, .agg (tqT a), .agg (tqT b)] w fun e w' => e = .returned (.agg (tqT (addQG id a b))) ∧ Below w.heap.size w w' := by
 have HA := Lib.hid (pairPointOk_i id a)
 have HB := Lib.hid (pairPointOk_i id b)
 obtain ⟨z1, x1, y1⟩ := a
 obtain ⟨z2, x2, y2⟩ := b
 cases ha : pairPtB id (z1, x1, y1) with
 | false =>
  rw [addQG_no (by rw [ha]; rfl)]
  rw [ha] at HA
  clear ha HB
  have HG := Lib.hid (blks3 w (tqT (z1, x1, y1)) (tqT (z2, x2, y2)) (#[.bool false, .string ⟨#[]⟩, .string ⟨#[]⟩, .string ⟨#[]⟩, .string ⟨#[]⟩]) 27 27 27)
  go_enter Tryz.func9, Tryz.ntmps9
  go_upto_region 1 with (fail)
  generalize ((w.alloc _).alloc _).alloc _ = w0 at *
  replace HG : Hid (Blks w w0 [(w.heap.size + 1 + 1, tqT (false, noP, noP), 27), (w.heap.size + 1, tqT (z2, x2, y2), 27), (w.heap.size, tqT (z1, x1, y1), 27)]) := HG
  have HS := Lib.hid HG.out.h
  replace HS : Hid (Held w0 [((w.heap.size + 1 + 1), tqT (false, noP, noP), 27), ((w.heap.size + 1), tqT (z2, x2, y2), 27), (w.heap.size, tqT (z1, x1, y1), 27)]) := Lib.hid (HG.out.h.pick [0, 1, 2] _ rfl)
  refine wp_region_linek (S := fun w' => Held w' [((w.heap.size + 1 + 1), tqT (false, noP, noP), 27), ((w.heap.size + 1), tqT (z2, x2, y2), 27), (w.heap.size, tqT (z1, x1, y1), 27)]) [(true, 0), (true, 1), (false, 2), (true, 3), (true, 4), (true, 5), (true, 6), (true, 7), (true, 8), (true, 9)] HS.out ?_
  refine SQ.out ?_
  refine g_psk [(0, .int .i64 id)] ?_
  refine g_ldk (some 13) (ld_mid' (D := tqT (z1, x1, y1)) (k := 0) Tryz.underlying27 rfl Tryz.infoPq (.tail _ (.tail _ (.head _))) rfl) ?_
  refine g_ck (some 14) Tryz.func10 (HA.out _) ?_
  rintro e v1 ⟨rfl, bw⟩
  replace HG := Lib.hid (HG.out.on bw)
  clear bw
  refine ⟨_, rfl, (HG.out.h.pick [0, 1, 2] _ rfl), ?_⟩
  refine g_psk [(3, .bool true), (4, .bool true)] ?_
  refine g_nok [5, 6, 7, 8] ?_
  refine g_psk [(9, .bool true)] ?_
  refine g_normk { tmps := List.toArray (List.append [.int .i64 id, .agg (tqT (z1, x1, y1)), .agg (tqT (z2, x2, y2)), undef, .pointer (some ⟨w.heap.size, 0, none⟩), .pointer (some ⟨(w.heap.size + 1), 0, none⟩), .pointer (some ⟨(w.heap.size + 1 + 1), 0, none⟩), undef, undef, undef, undef, undef, .int .i64 id, .agg (tqT (z1, x1, y1)), .bool false, .bool true, .bool true, undef, undef, undef, undef, .bool true, undef, undef, undef, undef, undef, undef, undef, undef, undef, undef, undef, undef, undef, undef, undef, undef, undef, undef] ([undef, undef, undef, undef, undef, undef, undef, undef])), defers := [] } ?_
  refine g_done ?_
  refine ‹∀ a w, Code.wp _ _ _ a w → _› _ _ ?_
  go_upto_region 2 with (fail)
  replace HS : Hid (Held v1 [((w.heap.size + 1), tqT (z2, x2, y2), 27), (w.heap.size, tqT (z1, x1, y1), 27)]) := Lib.hid (HG.out.h.pick [1, 2] _ rfl)
  refine wp_region_linek (S := fun w' => Held w' [((w.heap.size + 1), tqT (z2, x2, y2), 27), (w.heap.size, tqT (z1, x1, y1), 27)]) [(true, 0), (false, 1)] HS.out ?_
  refine sq_pure (some 22) (.agg (tqT (false, noP, noP))) (by kernel_rfl) (by kernel_rfl) (held_build 27 #[] (by kernel_rfl) _ (by kernel_rfl) _ built_pq0) ?_
  have HN := Lib.hid (HG.out.at 0 rfl)
  replace HG : Hid (Blks w (v1.setRow (w.heap.size + 1 + 1) (tqT (false, noP, noP))) [((w.heap.size + 1 + 1), tqT (false, noP, noP), 27), ((w.heap.size + 1), tqT (z2, x2, y2), 27), (w.heap.size, tqT (z1, x1, y1), 27)]) := Lib.hid (HG.out.put 0 rfl (tqT (false, noP, noP)))
  refine sq_stk 27 (w.heap.size + 1 + 1) (tqT (false, noP, noP)) HN.out Tryz.infoPq rfl (HG.out.h.pick [1, 2] _ rfl) ?_
  clear HN
  generalize World.setRow _ (w.heap.size + 1 + 1) _ = t2 at *
  refine sq_done ?_
  refine ‹∀ a w, Code.wp _ Code.ret _ a w → _› _ _ ?_
  refine wp_ret ?_
  try refine wk_block ?_
  try refine wk_then ?_
  exact bodyPost_ret (results_cell_row Tryz.results9 _ _ (w.heap.size + 1 + 1) _ _ _ _ (by kernel_rfl) (HG.out.at 0 rfl) Tryz.underlying27 rfl Tryz.infoPq) (by kernel_rfl) ⟨rfl, HG.out.b⟩
 | true =>
  rw [ha] at HA
  cases hb : pairPtB id (z2, x2, y2) with
  | false =>
   rw [addQG_no (by rw [ha, hb]; rfl)]
   rw [hb] at HB
   clear ha hb
   have HG := Lib.hid (blks3 w (tqT (z1, x1, y1)) (tqT (z2, x2, y2)) (#[.bool false, .string ⟨#[]⟩, .string ⟨#[]⟩, .string ⟨#[]⟩, .string ⟨#[]⟩]) 27 27 27)
   go_enter Tryz.func9, Tryz.ntmps9
   go_upto_region 1 with (fail)
   generalize ((w.alloc _).alloc _).alloc _ = w0 at *
   replace HG : Hid (Blks w w0 [(w.heap.size + 1 + 1, tqT (false, noP, noP), 27), (w.heap.size + 1, tqT (z2, x2, y2), 27), (w.heap.size, tqT (z1, x1, y1), 27)]) := HG
   have HS := Lib.hid HG.out.h
   replace HS : Hid (Held w0 [((w.heap.size + 1 + 1), tqT (false, noP, noP), 27), ((w.heap.size + 1), tqT (z2, x2, y2), 27), (w.heap.size, tqT (z1, x1, y1), 27)]) := Lib.hid (HG.out.h.pick [0, 1, 2] _ rfl)
   refine wp_region_linek (S := fun w' => Held w' [((w.heap.size + 1 + 1), tqT (false, noP, noP), 27), ((w.heap.size + 1), tqT (z2, x2, y2), 27), (w.heap.size, tqT (z1, x1, y1), 27)]) [(true, 0), (true, 1), (false, 2), (true, 3), (true, 4), (true, 5), (true, 6), (false, 7), (true, 8), (true, 9)] HS.out ?_
   refine SQ.out ?_
   refine g_psk [(0, .int .i64 id)] ?_
   refine g_ldk (some 13) (ld_mid' (D := tqT (z1, x1, y1)) (k := 0) Tryz.underlying27 rfl Tryz.infoPq (.tail _ (.tail _ (.head _))) rfl) ?_
   refine g_ck (some 14) Tryz.func10 (HA.out _) ?_
   rintro e v1 ⟨rfl, bw⟩
   replace HG := Lib.hid (HG.out.on bw)
   clear bw
   refine ⟨_, rfl, (HG.out.h.pick [0, 1, 2] _ rfl), ?_⟩
   refine g_psk [(3, .bool false), (4, .bool false), (5, .int .i64 id)] ?_
   refine g_ldk (some 18) (ld_mid' (D := tqT (z2, x2, y2)) (k := 0) Tryz.underlying27 rfl Tryz.infoPq (.tail _ (.head _)) rfl) ?_
   refine g_ck (some 19) Tryz.func10 (HB.out _) ?_
   rintro e v2 ⟨rfl, bw⟩
   replace HG := Lib.hid (HG.out.on bw)
   clear bw
   refine ⟨_, rfl, (HG.out.h.pick [0, 1, 2] _ rfl), ?_⟩
   refine g_psk [(8, .bool true), (9, .bool true)] ?_
   refine g_normk { tmps := List.toArray (List.append [.int .i64 id, .agg (tqT (z1, x1, y1)), .agg (tqT (z2, x2, y2)), undef, .pointer (some ⟨w.heap.size, 0, none⟩), .pointer (some ⟨(w.heap.size + 1), 0, none⟩), .pointer (some ⟨(w.heap.size + 1 + 1), 0, none⟩), undef, undef, undef, undef, undef, .int .i64 id, .agg (tqT (z1, x1, y1)), .bool true, .bool false, .bool false, .int .i64 id, .agg (tqT (z2, x2, y2)), .bool false, .bool true, .bool true, undef, undef, undef, undef, undef, undef, undef, undef, undef, undef, undef, undef, undef, undef, undef, undef, undef, undef] ([undef, undef, undef, undef, undef, undef, undef, undef])), defers := [] } ?_
   refine g_done ?_
   refine ‹∀ a w, Code.wp _ _ _ a w → _› _ _ ?_
   go_upto_region 2 with (fail)
   replace HS : Hid (Held v2 [((w.heap.size + 1), tqT (z2, x2, y2), 27), (w.heap.size, tqT (z1, x1, y1), 27)]) := Lib.hid (HG.out.h.pick [1, 2] _ rfl)
   refine wp_region_linek (S := fun w' => Held w' [((w.heap.size + 1), tqT (z2, x2, y2), 27), (w.heap.size, tqT (z1, x1, y1), 27)]) [(true, 0), (false, 1)] HS.out ?_
   refine sq_pure (some 22) (.agg (tqT (false, noP, noP))) (by kernel_rfl) (by kernel_rfl) (held_build 27 #[] (by kernel_rfl) _ (by kernel_rfl) _ built_pq0) ?_
   have HN := Lib.hid (HG.out.at 0 rfl)
   replace HG : Hid (Blks w (v2.setRow (w.heap.size + 1 + 1) (tqT (false, noP, noP))) [((w.heap.size + 1 + 1), tqT (false, noP, noP), 27), ((w.heap.size + 1), tqT (z2, x2, y2), 27), (w.heap.size, tqT (z1, x1, y1), 27)]) := Lib.hid (HG.out.put 0 rfl (tqT (false, noP, noP)))
   refine sq_stk 27 (w.heap.size + 1 + 1) (tqT (false, noP, noP)) HN.out Tryz.infoPq rfl (HG.out.h.pick [1, 2] _ rfl) ?_
   clear HN
   generalize World.setRow _ (w.heap.size + 1 + 1) _ = t3 at *
   refine sq_done ?_
   refine ‹∀ a w, Code.wp _ Code.ret _ a w → _› _ _ ?_
   refine wp_ret ?_
   try refine wk_block ?_
   try refine wk_then ?_
   exact bodyPost_ret (results_cell_row Tryz.results9 _ _ (w.heap.size + 1 + 1) _ _ _ _ (by kernel_rfl) (HG.out.at 0 rfl) Tryz.underlying27 rfl Tryz.infoPq) (by kernel_rfl) ⟨rfl, HG.out.b⟩
  | true =>
   rw [hb] at HB
   rw [addQG_is ha hb]
   have HK := Lib.hid (curveOf_i id)
   have HSum := Lib.hid (spE_plus (cvPT id) z1 x1 y1 z2 x2 y2)
   rw [(pair_fit ha).cv] at HK
   obtain ⟨s, hs⟩ : ∃ s, plusQ (cvPT id) (z1, x1, y1) (z2, x2, y2) = s := ⟨_, rfl⟩
   rw [hs] at HSum ⊢
   obtain ⟨sz0, sx, sy⟩ := s
   simp only at HSum
   clear ha hb hs
   simp only [cvE_eq] at HK
   generalize cvNT id = tn at *
   generalize cvPT id = tp at *
   generalize cvRT id = tr at *
   generalize cvBT id = tb at *
   generalize cvKT id = tk at *
   generalize cvSz id = sz at *
   generalize cvSc id = sc at *
   generalize cvBr id = br at *
   have HG := Lib.hid (blks3 w (tqT (z1, x1, y1)) (tqT (z2, x2, y2)) (#[.bool false, .string ⟨#[]⟩, .string ⟨#[]⟩, .string ⟨#[]⟩, .string ⟨#[]⟩]) 27 27 27)
   go_enter Tryz.func9, Tryz.ntmps9
   go_upto_region 1 with (fail)
   generalize ((w.alloc _).alloc _).alloc _ = w0 at *
   replace HG : Hid (Blks w w0 [(w.heap.size + 1 + 1, tqT (false, noP, noP), 27), (w.heap.size + 1, tqT (z2, x2, y2), 27), (w.heap.size, tqT (z1, x1, y1), 27)]) := HG
   have HS := Lib.hid HG.out.h
   replace HS : Hid (Held w0 [((w.heap.size + 1 + 1), tqT (false, noP, noP), 27), ((w.heap.size + 1), tqT (z2, x2, y2), 27), (w.heap.size, tqT (z1, x1, y1), 27)]) := Lib.hid (HG.out.h.pick [0, 1, 2] _ rfl)
   refine wp_region_linek (S := fun w' => Held w' [((w.heap.size + 1 + 1), tqT (false, noP, noP), 27), ((w.heap.size + 1), tqT (z2, x2, y2), 27), (w.heap.size, tqT (z1, x1, y1), 27)]) [(true, 0), (true, 1), (false, 2), (true, 3), (true, 4), (true, 5), (true, 6), (false, 7), (true, 8), (true, 9)] HS.out ?_
   refine SQ.out ?_
   refine g_psk [(0, .int .i64 id)] ?_
   refine g_ldk (some 13) (ld_mid' (D := tqT (z1, x1, y1)) (k := 0) Tryz.underlying27 rfl Tryz.infoPq (.tail _ (.tail _ (.head _))) rfl) ?_
   refine g_ck (some 14) Tryz.func10 (HA.out _) ?_
   rintro e v1 ⟨rfl, bw⟩
   replace HG := Lib.hid (HG.out.on bw)
   clear bw
   refine ⟨_, rfl, (HG.out.h.pick [0, 1, 2] _ rfl), ?_⟩
   refine g_psk [(3, .bool false), (4, .bool false), (5, .int .i64 id)] ?_
   refine g_ldk (some 18) (ld_mid' (D := tqT (z2, x2, y2)) (k := 0) Tryz.underlying27 rfl Tryz.infoPq (.tail _ (.head _)) rfl) ?_
   refine g_ck (some 19) Tryz.func10 (HB.out _) ?_
   rintro e v2 ⟨rfl, bw⟩
   replace HG := Lib.hid (HG.out.on bw)
   clear bw
   refine ⟨_, rfl, (HG.out.h.pick [0, 1, 2] _ rfl), ?_⟩
   refine g_psk [(8, .bool false), (9, .bool false)] ?_
   refine g_normk { tmps := List.toArray (List.append [.int .i64 id, .agg (tqT (z1, x1, y1)), .agg (tqT (z2, x2, y2)), undef, .pointer (some ⟨w.heap.size, 0, none⟩), .pointer (some ⟨(w.heap.size + 1), 0, none⟩), .pointer (some ⟨(w.heap.size + 1 + 1), 0, none⟩), undef, undef, undef, undef, undef, .int .i64 id, .agg (tqT (z1, x1, y1)), .bool true, .bool false, .bool false, .int .i64 id, .agg (tqT (z2, x2, y2)), .bool true, .bool false, .bool false, undef, undef, undef, undef, undef, undef, undef, undef, undef, undef, undef, undef, undef, undef, undef, undef, undef, undef] ([undef, undef, undef, undef, undef, undef, undef, undef])), defers := [] } ?_
   refine g_done ?_
   refine ‹∀ a w, Code.wp _ _ _ a w → _› _ _ ?_
   go_upto_region 3 with (fail)
   replace HS : Hid (Held v2 [((w.heap.size + 1 + 1), tqT (false, noP, noP), 27), ((w.heap.size + 1), tqT (z2, x2, y2), 27), (w.heap.size, tqT (z1, x1, y1), 27)]) := Lib.hid (HG.out.h.pick [0, 1, 2] _ rfl)
   refine wp_region_linek (S := fun w' => Held w' [((w.heap.size + 1 + 1), tqT (false, noP, noP), 27), ((w.heap.size + 1), tqT (z2, x2, y2), 27), (w.heap.size, tqT (z1, x1, y1), 27)]) [(true, 0), (false, 1), (true, 2), (true, 3), (true, 4), (false, 5), (false, 6), (true, 7)] HS.out ?_
   refine sq_psk [(0, .int .i64 id)] ?_
   refine sq_ck (some 25) Tryz.func35 (HK.out _) ?_
   rintro e v3 ⟨rfl, bw⟩
   replace HG := Lib.hid (HG.out.on bw)
   clear bw
   refine ⟨_, rfl, (HG.out.h.pick [0, 1, 2] _ rfl), ?_⟩
   refine sq_psk [(2, .tuple #[.agg (cvE (tn, tp, tr, tb, tk, sz, sc, br)), .bool true]), (3, .agg (cvE (tn, tp, tr, tb, tk, sz, sc, br))), (4, .bool true)] ?_
   replace HG := Lib.hid (HG.out.new (cvE (⟨#[]⟩, ⟨#[]⟩, ⟨#[]⟩, ⟨#[]⟩, noP, 0, 0, false)) 35)
   refine sq_allock (some 7) 35 (cvE (⟨#[]⟩, ⟨#[]⟩, ⟨#[]⟩, ⟨#[]⟩, noP, 0, 0, false)) (zero_cv _) (HG.out.h.pick [1, 2, 3] _ rfl) ?_
   generalize v3.alloc _ = u4 at *
   generalize v3.heap.size = g4 at *
   have HN := Lib.hid (HG.out.at 0 rfl)
   replace HG : Hid (Blks w (u4.setRow g4 (cvE (tn, tp, tr, tb, tk, sz, sc, br))) [(g4, cvE (tn, tp, tr, tb, tk, sz, sc, br), 35), ((w.heap.size + 1 + 1), tqT (false, noP, noP), 27), ((w.heap.size + 1), tqT (z2, x2, y2), 27), (w.heap.size, tqT (z1, x1, y1), 27)]) := Lib.hid (HG.out.put 0 rfl (cvE (tn, tp, tr, tb, tk, sz, sc, br)))
   refine sq_stk 35 g4 (cvE (tn, tp, tr, tb, tk, sz, sc, br)) HN.out Tryz.infoCv rfl (HG.out.h.pick [1, 2, 3] _ rfl) ?_
   clear HN
   generalize World.setRow _ g4 _ = t5 at *
   refine sq_psk [(7, .bool true)] ?_
   refine sq_fink { tmps := List.toArray (List.append [.int .i64 id, .agg (tqT (z1, x1, y1)), .agg (tqT (z2, x2, y2)), undef, .pointer (some ⟨w.heap.size, 0, none⟩), .pointer (some ⟨(w.heap.size + 1), 0, none⟩), .pointer (some ⟨(w.heap.size + 1 + 1), 0, none⟩), .pointer (some ⟨g4, 0, none⟩), .bool true, undef, undef, undef, .int .i64 id, .agg (tqT (z1, x1, y1)), .bool true, .bool false, .bool false, .int .i64 id, .agg (tqT (z2, x2, y2)), .bool true, .bool false, .bool false, undef, .tuple #[.agg (cvE (tn, tp, tr, tb, tk, sz, sc, br)), .bool true], .int .i64 id, .tuple #[.agg (cvE (tn, tp, tr, tb, tk, sz, sc, br)), .bool true], .agg (cvE (tn, tp, tr, tb, tk, sz, sc, br)), .bool true, undef, undef, undef, undef, undef, undef, undef, undef, undef, undef, undef, undef] ([undef, undef, undef, undef, undef, undef, undef, undef])), defers := [] } ?_
   refine ‹∀ a w, Code.wp _ _ _ a w → _› _ _ ?_
   go_upto_region 4 with (fail)
   replace HS : Hid (Held t5 [(g4, cvE (tn, tp, tr, tb, tk, sz, sc, br), 35), ((w.heap.size + 1 + 1), tqT (false, noP, noP), 27), ((w.heap.size + 1), tqT (z2, x2, y2), 27), (w.heap.size, tqT (z1, x1, y1), 27)]) := Lib.hid (HG.out.h.pick [0, 1, 2, 3] _ rfl)
   refine Code.wp_mono (Q := fun e a' w' => e = .normal ∧ ∃ (g6a g6b : Nat), a' = { tmps := List.toArray (List.append [.int .i64 id, .agg (tqT (z1, x1, y1)), .agg (tqT (z2, x2, y2)), undef, .pointer (some ⟨w.heap.size, 0, none⟩), .pointer (some ⟨(w.heap.size + 1), 0, none⟩), .pointer (some ⟨(w.heap.size + 1 + 1), 0, none⟩), .pointer (some ⟨g4, 0, none⟩), .bool true, .pointer (some ⟨g6a, 0, none⟩), .pointer (some ⟨g6b, 0, none⟩), undef, .int .i64 id, .agg (tqT (z1, x1, y1)), .bool true, .bool false, .bool false, .int .i64 id, .agg (tqT (z2, x2, y2)), .bool true, .bool false, .bool false, undef, .tuple #[.agg (cvE (tn, tp, tr, tb, tk, sz, sc, br)), .bool true], .int .i64 id, .tuple #[.agg (cvE (tn, tp, tr, tb, tk, sz, sc, br)), .bool true], .agg (cvE (tn, tp, tr, tb, tk, sz, sc, br)), .bool true, .agg (tqT (z1, x1, y1)), .pointer (some ⟨g4, 1, none⟩), .string tp, .agg (spE (z1, (x1, tp), (y1, tp))), .agg (tqT (z2, x2, y2)), .pointer (some ⟨g4, 1, none⟩), .string tp, .agg (spE (z2, (x2, tp), (y2, tp))), undef, undef, undef, undef] ([undef, undef, undef, undef, undef, undef, undef, undef])), defers := [] } ∧ Blks w w' [(g6a, spE (z1, (x1, tp), (y1, tp)), 68), (g6b, spE (z2, (x2, tp), (y2, tp)), 68), (g4, cvE (tn, tp, tr, tb, tk, sz, sc, br), 35), ((w.heap.size + 1 + 1), tqT (false, noP, noP), 27), ((w.heap.size + 1), tqT (z2, x2, y2), 27), (w.heap.size, tqT (z1, x1, y1), 27)]) ?_ ?_
   rotate_left
   ·refine m_begin (S := fun w' => Held w' [(g4, cvE (tn, tp, tr, tb, tk, sz, sc, br), 35), ((w.heap.size + 1 + 1), tqT (false, noP, noP), 27), ((w.heap.size + 1), tqT (z2, x2, y2), 27), (w.heap.size, tqT (z1, x1, y1), 27)]) (by kernel_rfl) 12 (by kernel_rfl) ?_
    replace HG := Lib.hid HG.out.drew
    change wpM _ _ _ _ _ _ _ _ (World.drew _)
    generalize World.drew t5 = v600 at *
    refine m_seqi (f := 6) [(true, 0), (true, 1), (true, 2), (true, 4), (true, 5), (true, 6)] 119 (HG.out.h.pick [0, 1, 2, 3] _ rfl) ?_
    refine sq_ldk (some 28) (ld_mid' (D := tqT (z1, x1, y1)) (k := 0) Tryz.underlying27 rfl Tryz.infoPq (.tail _ (.tail _ (.tail _ (.head _)))) rfl) ?_
    refine sq_psk [(1, .pointer (some ⟨g4, 1, none⟩))] ?_
    refine sq_ldk (some 30) (wk_s (.head _) (k := 1) rfl) ?_
    refine sq_ldk (some 32) (ld_mid' (D := tqT (z2, x2, y2)) (k := 0) Tryz.underlying27 rfl Tryz.infoPq (.tail _ (.tail _ (.head _))) rfl) ?_
    refine sq_psk [(5, .pointer (some ⟨g4, 1, none⟩))] ?_
    refine sq_ldk (some 34) (wk_s (.head _) (k := 1) rfl) ?_
    refine sq_done ?_
    refine m_maskk (M' := 119) ?_
    refine m_waysi (f := 5) [3, 8, 9] ?_
    intro i hi
    rcases (by simpa using hi : i = 3 ∨ i = 8 ∨ i = 9) with rfl | rfl | rfl
    ·refine sq_ck (some 31) Tryz.func36 (pairSpot_i (z1, x1, y1) tp _) ?_
     rintro e v601 ⟨rfl, bw⟩
     replace HG := Lib.hid (HG.out.on bw)
     clear bw
     refine ⟨_, rfl, (HG.out.h.pick [0, 1, 2, 3] _ rfl), ?_⟩
     refine sq_done ?_
     refine m_maskk (M' := 127) ?_
     refine m_waysi (f := 4) [7, 8, 9] ?_
     intro i hi
     rcases (by simpa using hi : i = 7 ∨ i = 8 ∨ i = 9) with rfl | rfl | rfl
     ·refine sq_ck (some 35) Tryz.func36 (pairSpot_i (z2, x2, y2) tp _) ?_
      rintro e v602 ⟨rfl, bw⟩
      replace HG := Lib.hid (HG.out.on bw)
      clear bw
      refine ⟨_, rfl, (HG.out.h.pick [0, 1, 2, 3] _ rfl), ?_⟩
      refine sq_done ?_
      refine m_maskk (M' := 255) ?_
      refine m_waysi (f := 3) [8, 9] ?_
      intro i hi
      rcases (by simpa using hi : i = 8 ∨ i = 9) with rfl | rfl
      ·replace HG := Lib.hid (HG.out.new (spE (false, (noP, ⟨#[]⟩), (noP, ⟨#[]⟩))) 68)
       refine sq_allock (some 9) 68 (spE (false, (noP, ⟨#[]⟩), (noP, ⟨#[]⟩))) (zero_spe _) (HG.out.h.pick [1, 2, 3, 4] _ rfl) ?_
       generalize v602.alloc _ = u603 at *
       generalize v602.heap.size = g6a at *
       refine sq_done ?_
       refine m_maskk (M' := 511) ?_
       refine m_seqi (f := 2) [(false, 9)] 1023 (HG.out.h.pick [1, 2, 3, 4] _ rfl) ?_
       replace HG := Lib.hid (HG.out.new (spE (false, (noP, ⟨#[]⟩), (noP, ⟨#[]⟩))) 68)
       refine sq_allock (some 10) 68 (spE (false, (noP, ⟨#[]⟩), (noP, ⟨#[]⟩))) (zero_spe _) (HG.out.h.pick [2, 3, 4, 5] _ rfl) ?_
       generalize u603.alloc _ = u604 at *
       generalize u603.heap.size = g6b at *
       refine sq_done ?_
       refine m_maskk (M' := 1023) ?_
       refine m_seqi (f := 1) [(false, 10)] 2047 (HG.out.h.pick [2, 3, 4, 5] _ rfl) ?_
       have HN := Lib.hid (HG.out.at 1 rfl)
       replace HG : Hid (Blks w (u604.setRow g6a (spE (z1, (x1, tp), (y1, tp)))) [(g6b, spE (false, (noP, ⟨#[]⟩), (noP, ⟨#[]⟩)), 68), (g6a, spE (z1, (x1, tp), (y1, tp)), 68), (g4, cvE (tn, tp, tr, tb, tk, sz, sc, br), 35), ((w.heap.size + 1 + 1), tqT (false, noP, noP), 27), ((w.heap.size + 1), tqT (z2, x2, y2), 27), (w.heap.size, tqT (z1, x1, y1), 27)]) := Lib.hid (HG.out.put 1 rfl (spE (z1, (x1, tp), (y1, tp))))
       refine sq_stk 68 g6a (spE (z1, (x1, tp), (y1, tp))) HN.out Tryz.infoSPq rfl (HG.out.h.pick [2, 3, 4, 5] _ rfl) ?_
       clear HN
       generalize World.setRow _ g6a _ = t605 at *
       refine sq_done ?_
       refine m_maskk (M' := 2047) ?_
       refine m_seqi (f := 0) [(false, 11)] 4095 (HG.out.h.pick [2, 3, 4, 5] _ rfl) ?_
       have HN := Lib.hid (HG.out.at 0 rfl)
       replace HG : Hid (Blks w (t605.setRow g6b (spE (z2, (x2, tp), (y2, tp)))) [(g6b, spE (z2, (x2, tp), (y2, tp)), 68), (g6a, spE (z1, (x1, tp), (y1, tp)), 68), (g4, cvE (tn, tp, tr, tb, tk, sz, sc, br), 35), ((w.heap.size + 1 + 1), tqT (false, noP, noP), 27), ((w.heap.size + 1), tqT (z2, x2, y2), 27), (w.heap.size, tqT (z1, x1, y1), 27)]) := Lib.hid (HG.out.put 0 rfl (spE (z2, (x2, tp), (y2, tp))))
       refine sq_stk 68 g6b (spE (z2, (x2, tp), (y2, tp))) HN.out Tryz.infoSPq rfl (HG.out.h.pick [2, 3, 4, 5] _ rfl) ?_
       clear HN
       generalize World.setRow _ g6b _ = t606 at *
       refine sq_done ?_
       refine m_maskk (M' := 4095) ?_
       refine m_donei { tmps := List.toArray (List.append [.int .i64 id, .agg (tqT (z1, x1, y1)), .agg (tqT (z2, x2, y2)), undef, .pointer (some ⟨w.heap.size, 0, none⟩), .pointer (some ⟨(w.heap.size + 1), 0, none⟩), .pointer (some ⟨(w.heap.size + 1 + 1), 0, none⟩), .pointer (some ⟨g4, 0, none⟩), .bool true, .pointer (some ⟨g6a, 0, none⟩), .pointer (some ⟨g6b, 0, none⟩), undef, .int .i64 id, .agg (tqT (z1, x1, y1)), .bool true, .bool false, .bool false, .int .i64 id, .agg (tqT (z2, x2, y2)), .bool true, .bool false, .bool false, undef, .tuple #[.agg (cvE (tn, tp, tr, tb, tk, sz, sc, br)), .bool true], .int .i64 id, .tuple #[.agg (cvE (tn, tp, tr, tb, tk, sz, sc, br)), .bool true], .agg (cvE (tn, tp, tr, tb, tk, sz, sc, br)), .bool true, .agg (tqT (z1, x1, y1)), .pointer (some ⟨g4, 1, none⟩), .string tp, .agg (spE (z1, (x1, tp), (y1, tp))), .agg (tqT (z2, x2, y2)), .pointer (some ⟨g4, 1, none⟩), .string tp, .agg (spE (z2, (x2, tp), (y2, tp))), undef, undef, undef, undef] ([undef, undef, undef, undef, undef, undef, undef, undef])), defers := [] } ?_
       exact ⟨rfl, g6a, g6b, rfl, HG.out.sub [1, 0, 2, 3, 4, 5] _ rfl (by decide)⟩
      ·replace HG := Lib.hid (HG.out.new (spE (false, (noP, ⟨#[]⟩), (noP, ⟨#[]⟩))) 68)
       refine sq_allock (some 10) 68 (spE (false, (noP, ⟨#[]⟩), (noP, ⟨#[]⟩))) (zero_spe _) (HG.out.h.pick [1, 2, 3, 4] _ rfl) ?_
       generalize v602.alloc _ = u603 at *
       generalize v602.heap.size = g6b at *
       refine sq_done ?_
       refine m_maskk (M' := 767) ?_
       refine m_seqi (f := 2) [(false, 8)] 1023 (HG.out.h.pick [1, 2, 3, 4] _ rfl) ?_
       replace HG := Lib.hid (HG.out.new (spE (false, (noP, ⟨#[]⟩), (noP, ⟨#[]⟩))) 68)
       refine sq_allock (some 9) 68 (spE (false, (noP, ⟨#[]⟩), (noP, ⟨#[]⟩))) (zero_spe _) (HG.out.h.pick [2, 3, 4, 5] _ rfl) ?_
       generalize u603.alloc _ = u604 at *
       generalize u603.heap.size = g6a at *
       refine sq_done ?_
       refine m_maskk (M' := 1023) ?_
       refine m_seqi (f := 1) [(false, 10)] 2047 (HG.out.h.pick [2, 3, 4, 5] _ rfl) ?_
       have HN := Lib.hid (HG.out.at 0 rfl)
       replace HG : Hid (Blks w (u604.setRow g6a (spE (z1, (x1, tp), (y1, tp)))) [(g6a, spE (z1, (x1, tp), (y1, tp)), 68), (g6b, spE (false, (noP, ⟨#[]⟩), (noP, ⟨#[]⟩)), 68), (g4, cvE (tn, tp, tr, tb, tk, sz, sc, br), 35), ((w.heap.size + 1 + 1), tqT (false, noP, noP), 27), ((w.heap.size + 1), tqT (z2, x2, y2), 27), (w.heap.size, tqT (z1, x1, y1), 27)]) := Lib.hid (HG.out.put 0 rfl (spE (z1, (x1, tp), (y1, tp))))
       refine sq_stk 68 g6a (spE (z1, (x1, tp), (y1, tp))) HN.out Tryz.infoSPq rfl (HG.out.h.pick [2, 3, 4, 5] _ rfl) ?_
       clear HN
       generalize World.setRow _ g6a _ = t605 at *
       refine sq_done ?_
       refine m_maskk (M' := 2047) ?_
       refine m_seqi (f := 0) [(false, 11)] 4095 (HG.out.h.pick [2, 3, 4, 5] _ rfl) ?_
       have HN := Lib.hid (HG.out.at 1 rfl)
       replace HG : Hid (Blks w (t605.setRow g6b (spE (z2, (x2, tp), (y2, tp)))) [(g6a, spE (z1, (x1, tp), (y1, tp)), 68), (g6b, spE (z2, (x2, tp), (y2, tp)), 68), (g4, cvE (tn, tp, tr, tb, tk, sz, sc, br), 35), ((w.heap.size + 1 + 1), tqT (false, noP, noP), 27), ((w.heap.size + 1), tqT (z2, x2, y2), 27), (w.heap.size, tqT (z1, x1, y1), 27)]) := Lib.hid (HG.out.put 1 rfl (spE (z2, (x2, tp), (y2, tp))))
       refine sq_stk 68 g6b (spE (z2, (x2, tp), (y2, tp))) HN.out Tryz.infoSPq rfl (HG.out.h.pick [2, 3, 4, 5] _ rfl) ?_
       clear HN
       generalize World.setRow _ g6b _ = t606 at *
       refine sq_done ?_
       refine m_maskk (M' := 4095) ?_
       refine m_donei { tmps := List.toArray (List.append [.int .i64 id, .agg (tqT (z1, x1, y1)), .agg (tqT (z2, x2, y2)), undef, .pointer (some ⟨w.heap.size, 0, none⟩), .pointer (some ⟨(w.heap.size + 1), 0, none⟩), .pointer (some ⟨(w.heap.size + 1 + 1), 0, none⟩), .pointer (some ⟨g4, 0, none⟩), .bool true, .pointer (some ⟨g6a, 0, none⟩), .pointer (some ⟨g6b, 0, none⟩), undef, .int .i64 id, .agg (tqT (z1, x1, y1)), .bool true, .bool false, .bool false, .int .i64 id, .agg (tqT (z2, x2, y2)), .bool true, .bool false, .bool false, undef, .tuple #[.agg (cvE (tn, tp, tr, tb, tk, sz, sc, br)), .bool true], .int .i64 id, .tuple #[.agg (cvE (tn, tp, tr, tb, tk, sz, sc, br)), .bool true], .agg (cvE (tn, tp, tr, tb, tk, sz, sc, br)), .bool true, .agg (tqT (z1, x1, y1)), .pointer (some ⟨g4, 1, none⟩), .string tp, .agg (spE (z1, (x1, tp), (y1, tp))), .agg (tqT (z2, x2, y2)), .pointer (some ⟨g4, 1, none⟩), .string tp, .agg (spE (z2, (x2, tp), (y2, tp))), undef, undef, undef, undef] ([undef, undef, undef, undef, undef, undef, undef, undef])), defers := [] } ?_
       exact ⟨rfl, g6a, g6b, rfl, HG.out.sub [0, 1, 2, 3, 4, 5] _ rfl (by decide)⟩
     ·replace HG := Lib.hid (HG.out.new (spE (false, (noP, ⟨#[]⟩), (noP, ⟨#[]⟩))) 68)
      refine sq_allock (some 9) 68 (spE (false, (noP, ⟨#[]⟩), (noP, ⟨#[]⟩))) (zero_spe _) (HG.out.h.pick [1, 2, 3, 4] _ rfl) ?_
      generalize v601.alloc _ = u602 at *
      generalize v601.heap.size = g6a at *
      refine sq_done ?_
      refine m_maskk (M' := 383) ?_
      refine m_waysi (f := 3) [7, 9] ?_
      intro i hi
      rcases (by simpa using hi : i = 7 ∨ i = 9) with rfl | rfl
      ·refine sq_ck (some 35) Tryz.func36 (pairSpot_i (z2, x2, y2) tp _) ?_
       rintro e v603 ⟨rfl, bw⟩
       replace HG := Lib.hid (HG.out.on bw)
       clear bw
       refine ⟨_, rfl, (HG.out.h.pick [1, 2, 3, 4] _ rfl), ?_⟩
       refine sq_done ?_
       refine m_maskk (M' := 511) ?_
       refine m_seqi (f := 2) [(false, 9)] 1023 (HG.out.h.pick [1, 2, 3, 4] _ rfl) ?_
       replace HG := Lib.hid (HG.out.new (spE (false, (noP, ⟨#[]⟩), (noP, ⟨#[]⟩))) 68)
       refine sq_allock (some 10) 68 (spE (false, (noP, ⟨#[]⟩), (noP, ⟨#[]⟩))) (zero_spe _) (HG.out.h.pick [2, 3, 4, 5] _ rfl) ?_
       generalize v603.alloc _ = u604 at *
       generalize v603.heap.size = g6b at *
       refine sq_done ?_
       refine m_maskk (M' := 1023) ?_
       refine m_seqi (f := 1) [(false, 10)] 2047 (HG.out.h.pick [2, 3, 4, 5] _ rfl) ?_
       have HN := Lib.hid (HG.out.at 1 rfl)
       replace HG : Hid (Blks w (u604.setRow g6a (spE (z1, (x1, tp), (y1, tp)))) [(g6b, spE (false, (noP, ⟨#[]⟩), (noP, ⟨#[]⟩)), 68), (g6a, spE (z1, (x1, tp), (y1, tp)), 68), (g4, cvE (tn, tp, tr, tb, tk, sz, sc, br), 35), ((w.heap.size + 1 + 1), tqT (false, noP, noP), 27), ((w.heap.size + 1), tqT (z2, x2, y2), 27), (w.heap.size, tqT (z1, x1, y1), 27)]) := Lib.hid (HG.out.put 1 rfl (spE (z1, (x1, tp), (y1, tp))))
       refine sq_stk 68 g6a (spE (z1, (x1, tp), (y1, tp))) HN.out Tryz.infoSPq rfl (HG.out.h.pick [2, 3, 4, 5] _ rfl) ?_
       clear HN
       generalize World.setRow _ g6a _ = t605 at *
       refine sq_done ?_
       refine m_maskk (M' := 2047) ?_
       refine m_seqi (f := 0) [(false, 11)] 4095 (HG.out.h.pick [2, 3, 4, 5] _ rfl) ?_
       have HN := Lib.hid (HG.out.at 0 rfl)
       replace HG : Hid (Blks w (t605.setRow g6b (spE (z2, (x2, tp), (y2, tp)))) [(g6b, spE (z2, (x2, tp), (y2, tp)), 68), (g6a, spE (z1, (x1, tp), (y1, tp)), 68), (g4, cvE (tn, tp, tr, tb, tk, sz, sc, br), 35), ((w.heap.size + 1 + 1), tqT (false, noP, noP), 27), ((w.heap.size + 1), tqT (z2, x2, y2), 27), (w.heap.size, tqT (z1, x1, y1), 27)]) := Lib.hid (HG.out.put 0 rfl (spE (z2, (x2, tp), (y2, tp))))
       refine sq_stk 68 g6b (spE (z2, (x2, tp), (y2, tp))) HN.out Tryz.infoSPq rfl (HG.out.h.pick [2, 3, 4, 5] _ rfl) ?_
       clear HN
       generalize World.setRow _ g6b _ = t606 at *
       refine sq_done ?_
       refine m_maskk (M' := 4095) ?_
       refine m_donei { tmps := List.toArray (List.append [.int .i64 id, .agg (tqT (z1, x1, y1)), .agg (tqT (z2, x2, y2)), undef, .pointer (some ⟨w.heap.size, 0, none⟩), .pointer (some ⟨(w.heap.size + 1), 0, none⟩), .pointer (some ⟨(w.heap.size + 1 + 1), 0, none⟩), .pointer (some ⟨g4, 0, none⟩), .bool true, .pointer (some ⟨g6a, 0, none⟩), .pointer (some ⟨g6b, 0, none⟩), undef, .int .i64 id, .agg (tqT (z1, x1, y1)), .bool true, .bool false, .bool false, .int .i64 id, .agg (tqT (z2, x2, y2)), .bool true, .bool false, .bool false, undef, .tuple #[.agg (cvE (tn, tp, tr, tb, tk, sz, sc, br)), .bool true], .int .i64 id, .tuple #[.agg (cvE (tn, tp, tr, tb, tk, sz, sc, br)), .bool true], .agg (cvE (tn, tp, tr, tb, tk, sz, sc, br)), .bool true, .agg (tqT (z1, x1, y1)), .pointer (some ⟨g4, 1, none⟩), .string tp, .agg (spE (z1, (x1, tp), (y1, tp))), .agg (tqT (z2, x2, y2)), .pointer (some ⟨g4, 1, none⟩), .string tp, .agg (spE (z2, (x2, tp), (y2, tp))), undef, undef, undef, undef] ([undef, undef, undef, undef, undef, undef, undef, undef])), defers := [] } ?_
       exact ⟨rfl, g6a, g6b, rfl, HG.out.sub [1, 0, 2, 3, 4, 5] _ rfl (by decide)⟩
      ·replace HG := Lib.hid (HG.out.new (spE (false, (noP, ⟨#[]⟩), (noP, ⟨#[]⟩))) 68)
       refine sq_allock (some 10) 68 (spE (false, (noP, ⟨#[]⟩), (noP, ⟨#[]⟩))) (zero_spe _) (HG.out.h.pick [2, 3, 4, 5] _ rfl) ?_
       generalize u602.alloc _ = u603 at *
       generalize u602.heap.size = g6b at *
       refine sq_done ?_
       refine m_maskk (M' := 895) ?_
       refine m_seqi (f := 2) [(false, 7)] 1023 (HG.out.h.pick [2, 3, 4, 5] _ rfl) ?_
       refine sq_ck (some 35) Tryz.func36 (pairSpot_i (z2, x2, y2) tp _) ?_
       rintro e v604 ⟨rfl, bw⟩
       replace HG := Lib.hid (HG.out.on bw)
       clear bw
       refine ⟨_, rfl, (HG.out.h.pick [2, 3, 4, 5] _ rfl), ?_⟩
       refine sq_done ?_
       refine m_maskk (M' := 1023) ?_
       refine m_seqi (f := 1) [(false, 10)] 2047 (HG.out.h.pick [2, 3, 4, 5] _ rfl) ?_
       have HN := Lib.hid (HG.out.at 1 rfl)
       replace HG : Hid (Blks w (v604.setRow g6a (spE (z1, (x1, tp), (y1, tp)))) [(g6b, spE (false, (noP, ⟨#[]⟩), (noP, ⟨#[]⟩)), 68), (g6a, spE (z1, (x1, tp), (y1, tp)), 68), (g4, cvE (tn, tp, tr, tb, tk, sz, sc, br), 35), ((w.heap.size + 1 + 1), tqT (false, noP, noP), 27), ((w.heap.size + 1), tqT (z2, x2, y2), 27), (w.heap.size, tqT (z1, x1, y1), 27)]) := Lib.hid (HG.out.put 1 rfl (spE (z1, (x1, tp), (y1, tp))))
       refine sq_stk 68 g6a (spE (z1, (x1, tp), (y1, tp))) HN.out Tryz.infoSPq rfl (HG.out.h.pick [2, 3, 4, 5] _ rfl) ?_
       clear HN
       generalize World.setRow _ g6a _ = t605 at *
       refine sq_done ?_
       refine m_maskk (M' := 2047) ?_
       refine m_seqi (f := 0) [(false, 11)] 4095 (HG.out.h.pick [2, 3, 4, 5] _ rfl) ?_
       have HN := Lib.hid (HG.out.at 0 rfl)
       replace HG : Hid (Blks w (t605.setRow g6b (spE (z2, (x2, tp), (y2, tp)))) [(g6b, spE (z2, (x2, tp), (y2, tp)), 68), (g6a, spE (z1, (x1, tp), (y1, tp)), 68), (g4, cvE (tn, tp, tr, tb, tk, sz, sc, br), 35), ((w.heap.size + 1 + 1), tqT (false, noP, noP), 27), ((w.heap.size + 1), tqT (z2, x2, y2), 27), (w.heap.size, tqT (z1, x1, y1), 27)]) := Lib.hid (HG.out.put 0 rfl (spE (z2, (x2, tp), (y2, tp))))
       refine sq_stk 68 g6b (spE (z2, (x2, tp), (y2, tp))) HN.out Tryz.infoSPq rfl (HG.out.h.pick [2, 3, 4, 5] _ rfl) ?_
       clear HN
       generalize World.setRow _ g6b _ = t606 at *
       refine sq_done ?_
       refine m_maskk (M' := 4095) ?_
       refine m_donei { tmps := List.toArray (List.append [.int .i64 id, .agg (tqT (z1, x1, y1)), .agg (tqT (z2, x2, y2)), undef, .pointer (some ⟨w.heap.size, 0, none⟩), .pointer (some ⟨(w.heap.size + 1), 0, none⟩), .pointer (some ⟨(w.heap.size + 1 + 1), 0, none⟩), .pointer (some ⟨g4, 0, none⟩), .bool true, .pointer (some ⟨g6a, 0, none⟩), .pointer (some ⟨g6b, 0, none⟩), undef, .int .i64 id, .agg (tqT (z1, x1, y1)), .bool true, .bool false, .bool false, .int .i64 id, .agg (tqT (z2, x2, y2)), .bool true, .bool false, .bool false, undef, .tuple #[.agg (cvE (tn, tp, tr, tb, tk, sz, sc, br)), .bool true], .int .i64 id, .tuple #[.agg (cvE (tn, tp, tr, tb, tk, sz, sc, br)), .bool true], .agg (cvE (tn, tp, tr, tb, tk, sz, sc, br)), .bool true, .agg (tqT (z1, x1, y1)), .pointer (some ⟨g4, 1, none⟩), .string tp, .agg (spE (z1, (x1, tp), (y1, tp))), .agg (tqT (z2, x2, y2)), .pointer (some ⟨g4, 1, none⟩), .string tp, .agg (spE (z2, (x2, tp), (y2, tp))), undef, undef, undef, undef] ([undef, undef, undef, undef, undef, undef, undef, undef])), defers := [] } ?_
       exact ⟨rfl, g6a, g6b, rfl, HG.out.sub [1, 0, 2, 3, 4, 5] _ rfl (by decide)⟩
     ·replace HG := Lib.hid (HG.out.new (spE (false, (noP, ⟨#[]⟩), (noP, ⟨#[]⟩))) 68)
      refine sq_allock (some 10) 68 (spE (false, (noP, ⟨#[]⟩), (noP, ⟨#[]⟩))) (zero_spe _) (HG.out.h.pick [1, 2, 3, 4] _ rfl) ?_
      generalize v601.alloc _ = u602 at *
      generalize v601.heap.size = g6b at *
      refine sq_done ?_
      refine m_maskk (M' := 639) ?_
      refine m_waysi (f := 3) [7, 8] ?_
      intro i hi
      rcases (by simpa using hi : i = 7 ∨ i = 8) with rfl | rfl
      ·refine sq_ck (some 35) Tryz.func36 (pairSpot_i (z2, x2, y2) tp _) ?_
       rintro e v603 ⟨rfl, bw⟩
       replace HG := Lib.hid (HG.out.on bw)
       clear bw
       refine ⟨_, rfl, (HG.out.h.pick [1, 2, 3, 4] _ rfl), ?_⟩
       refine sq_done ?_
       refine m_maskk (M' := 767) ?_
       refine m_seqi (f := 2) [(false, 8)] 1023 (HG.out.h.pick [1, 2, 3, 4] _ rfl) ?_
       replace HG := Lib.hid (HG.out.new (spE (false, (noP, ⟨#[]⟩), (noP, ⟨#[]⟩))) 68)
       refine sq_allock (some 9) 68 (spE (false, (noP, ⟨#[]⟩), (noP, ⟨#[]⟩))) (zero_spe _) (HG.out.h.pick [2, 3, 4, 5] _ rfl) ?_
       generalize v603.alloc _ = u604 at *
       generalize v603.heap.size = g6a at *
       refine sq_done ?_
       refine m_maskk (M' := 1023) ?_
       refine m_seqi (f := 1) [(false, 10)] 2047 (HG.out.h.pick [2, 3, 4, 5] _ rfl) ?_
       have HN := Lib.hid (HG.out.at 0 rfl)
       replace HG : Hid (Blks w (u604.setRow g6a (spE (z1, (x1, tp), (y1, tp)))) [(g6a, spE (z1, (x1, tp), (y1, tp)), 68), (g6b, spE (false, (noP, ⟨#[]⟩), (noP, ⟨#[]⟩)), 68), (g4, cvE (tn, tp, tr, tb, tk, sz, sc, br), 35), ((w.heap.size + 1 + 1), tqT (false, noP, noP), 27), ((w.heap.size + 1), tqT (z2, x2, y2), 27), (w.heap.size, tqT (z1, x1, y1), 27)]) := Lib.hid (HG.out.put 0 rfl (spE (z1, (x1, tp), (y1, tp))))
       refine sq_stk 68 g6a (spE (z1, (x1, tp), (y1, tp))) HN.out Tryz.infoSPq rfl (HG.out.h.pick [2, 3, 4, 5] _ rfl) ?_
       clear HN
       generalize World.setRow _ g6a _ = t605 at *
       refine sq_done ?_
       refine m_maskk (M' := 2047) ?_
       refine m_seqi (f := 0) [(false, 11)] 4095 (HG.out.h.pick [2, 3, 4, 5] _ rfl) ?_
       have HN := Lib.hid (HG.out.at 1 rfl)
       replace HG : Hid (Blks w (t605.setRow g6b (spE (z2, (x2, tp), (y2, tp)))) [(g6a, spE (z1, (x1, tp), (y1, tp)), 68), (g6b, spE (z2, (x2, tp), (y2, tp)), 68), (g4, cvE (tn, tp, tr, tb, tk, sz, sc, br), 35), ((w.heap.size + 1 + 1), tqT (false, noP, noP), 27), ((w.heap.size + 1), tqT (z2, x2, y2), 27), (w.heap.size, tqT (z1, x1, y1), 27)]) := Lib.hid (HG.out.put 1 rfl (spE (z2, (x2, tp), (y2, tp))))
       refine sq_stk 68 g6b (spE (z2, (x2, tp), (y2, tp))) HN.out Tryz.infoSPq rfl (HG.out.h.pick [2, 3, 4, 5] _ rfl) ?_
       clear HN
       generalize World.setRow _ g6b _ = t606 at *
       refine sq_done ?_
       refine m_maskk (M' := 4095) ?_
       refine m_donei { tmps := List.toArray (List.append [.int .i64 id, .agg (tqT (z1, x1, y1)), .agg (tqT (z2, x2, y2)), undef, .pointer (some ⟨w.heap.size, 0, none⟩), .pointer (some ⟨(w.heap.size + 1), 0, none⟩), .pointer (some ⟨(w.heap.size + 1 + 1), 0, none⟩), .pointer (some ⟨g4, 0, none⟩), .bool true, .pointer (some ⟨g6a, 0, none⟩), .pointer (some ⟨g6b, 0, none⟩), undef, .int .i64 id, .agg (tqT (z1, x1, y1)), .bool true, .bool false, .bool false, .int .i64 id, .agg (tqT (z2, x2, y2)), .bool true, .bool false, .bool false, undef, .tuple #[.agg (cvE (tn, tp, tr, tb, tk, sz, sc, br)), .bool true], .int .i64 id, .tuple #[.agg (cvE (tn, tp, tr, tb, tk, sz, sc, br)), .bool true], .agg (cvE (tn, tp, tr, tb, tk, sz, sc, br)), .bool true, .agg (tqT (z1, x1, y1)), .pointer (some ⟨g4, 1, none⟩), .string tp, .agg (spE (z1, (x1, tp), (y1, tp))), .agg (tqT (z2, x2, y2)), .pointer (some ⟨g4, 1, none⟩), .string tp, .agg (spE (z2, (x2, tp), (y2, tp))), undef, undef, undef, undef] ([undef, undef, undef, undef, undef, undef, undef, undef])), defers := [] } ?_
       exact ⟨rfl, g6a, g6b, rfl, HG.out.sub [0, 1, 2, 3, 4, 5] _ rfl (by decide)⟩
      ·replace HG := Lib.hid (HG.out.new (spE (false, (noP, ⟨#[]⟩), (noP, ⟨#[]⟩))) 68)
       refine sq_allock (some 9) 68 (spE (false, (noP, ⟨#[]⟩), (noP, ⟨#[]⟩))) (zero_spe _) (HG.out.h.pick [2, 3, 4, 5] _ rfl) ?_
       generalize u602.alloc _ = u603 at *
       generalize u602.heap.size = g6a at *
       refine sq_done ?_
       refine m_maskk (M' := 895) ?_
       refine m_seqi (f := 2) [(false, 7)] 1023 (HG.out.h.pick [2, 3, 4, 5] _ rfl) ?_
       refine sq_ck (some 35) Tryz.func36 (pairSpot_i (z2, x2, y2) tp _) ?_
       rintro e v604 ⟨rfl, bw⟩
       replace HG := Lib.hid (HG.out.on bw)
       clear bw
       refine ⟨_, rfl, (HG.out.h.pick [2, 3, 4, 5] _ rfl), ?_⟩
       refine sq_done ?_
       refine m_maskk (M' := 1023) ?_
       refine m_seqi (f := 1) [(false, 10)] 2047 (HG.out.h.pick [2, 3, 4, 5] _ rfl) ?_
       have HN := Lib.hid (HG.out.at 0 rfl)
       replace HG : Hid (Blks w (v604.setRow g6a (spE (z1, (x1, tp), (y1, tp)))) [(g6a, spE (z1, (x1, tp), (y1, tp)), 68), (g6b, spE (false, (noP, ⟨#[]⟩), (noP, ⟨#[]⟩)), 68), (g4, cvE (tn, tp, tr, tb, tk, sz, sc, br), 35), ((w.heap.size + 1 + 1), tqT (false, noP, noP), 27), ((w.heap.size + 1), tqT (z2, x2, y2), 27), (w.heap.size, tqT (z1, x1, y1), 27)]) := Lib.hid (HG.out.put 0 rfl (spE (z1, (x1, tp), (y1, tp))))
       refine sq_stk 68 g6a (spE (z1, (x1, tp), (y1, tp))) HN.out Tryz.infoSPq rfl (HG.out.h.pick [2, 3, 4, 5] _ rfl) ?_
       clear HN
       generalize World.setRow _ g6a _ = t605 at *
       refine sq_done ?_
       refine m_maskk (M' := 2047) ?_
       refine m_seqi (f := 0) [(false, 11)] 4095 (HG.out.h.pick [2, 3, 4, 5] _ rfl) ?_
       have HN := Lib.hid (HG.out.at 1 rfl)
       replace HG : Hid (Blks w (t605.setRow g6b (spE (z2, (x2, tp), (y2, tp)))) [(g6a, spE (z1, (x1, tp), (y1, tp)), 68), (g6b, spE (z2, (x2, tp), (y2, tp)), 68), (g4, cvE (tn, tp, tr, tb, tk, sz, sc, br), 35), ((w.heap.size + 1 + 1), tqT (false, noP, noP), 27), ((w.heap.size + 1), tqT (z2, x2, y2), 27), (w.heap.size, tqT (z1, x1, y1), 27)]) := Lib.hid (HG.out.put 1 rfl (spE (z2, (x2, tp), (y2, tp))))
       refine sq_stk 68 g6b (spE (z2, (x2, tp), (y2, tp))) HN.out Tryz.infoSPq rfl (HG.out.h.pick [2, 3, 4, 5] _ rfl) ?_
       clear HN
       generalize World.setRow _ g6b _ = t606 at *
       refine sq_done ?_
       refine m_maskk (M' := 4095) ?_
       refine m_donei { tmps := List.toArray (List.append [.int .i64 id, .agg (tqT (z1, x1, y1)), .agg (tqT (z2, x2, y2)), undef, .pointer (some ⟨w.heap.size, 0, none⟩), .pointer (some ⟨(w.heap.size + 1), 0, none⟩), .pointer (some ⟨(w.heap.size + 1 + 1), 0, none⟩), .pointer (some ⟨g4, 0, none⟩), .bool true, .pointer (some ⟨g6a, 0, none⟩), .pointer (some ⟨g6b, 0, none⟩), undef, .int .i64 id, .agg (tqT (z1, x1, y1)), .bool true, .bool false, .bool false, .int .i64 id, .agg (tqT (z2, x2, y2)), .bool true, .bool false, .bool false, undef, .tuple #[.agg (cvE (tn, tp, tr, tb, tk, sz, sc, br)), .bool true], .int .i64 id, .tuple #[.agg (cvE (tn, tp, tr, tb, tk, sz, sc, br)), .bool true], .agg (cvE (tn, tp, tr, tb, tk, sz, sc, br)), .bool true, .agg (tqT (z1, x1, y1)), .pointer (some ⟨g4, 1, none⟩), .string tp, .agg (spE (z1, (x1, tp), (y1, tp))), .agg (tqT (z2, x2, y2)), .pointer (some ⟨g4, 1, none⟩), .string tp, .agg (spE (z2, (x2, tp), (y2, tp))), undef, undef, undef, undef] ([undef, undef, undef, undef, undef, undef, undef, undef])), defers := [] } ?_
       exact ⟨rfl, g6a, g6b, rfl, HG.out.sub [0, 1, 2, 3, 4, 5] _ rfl (by decide)⟩
    ·replace HG := Lib.hid (HG.out.new (spE (false, (noP, ⟨#[]⟩), (noP, ⟨#[]⟩))) 68)
     refine sq_allock (some 9) 68 (spE (false, (noP, ⟨#[]⟩), (noP, ⟨#[]⟩))) (zero_spe _) (HG.out.h.pick [1, 2, 3, 4] _ rfl) ?_
     generalize v600.alloc _ = u601 at *
     generalize v600.heap.size = g6a at *
     refine sq_done ?_
     refine m_maskk (M' := 375) ?_
     refine m_waysi (f := 4) [3, 9] ?_
     intro i hi
     rcases (by simpa using hi : i = 3 ∨ i = 9) with rfl | rfl
     ·refine sq_ck (some 31) Tryz.func36 (pairSpot_i (z1, x1, y1) tp _) ?_
      rintro e v602 ⟨rfl, bw⟩
      replace HG := Lib.hid (HG.out.on bw)
      clear bw
      refine ⟨_, rfl, (HG.out.h.pick [1, 2, 3, 4] _ rfl), ?_⟩
      refine sq_done ?_
      refine m_maskk (M' := 383) ?_
      refine m_waysi (f := 3) [7, 9] ?_
      intro i hi
      rcases (by simpa using hi : i = 7 ∨ i = 9) with rfl | rfl
      ·refine sq_ck (some 35) Tryz.func36 (pairSpot_i (z2, x2, y2) tp _) ?_
       rintro e v603 ⟨rfl, bw⟩
       replace HG := Lib.hid (HG.out.on bw)
       clear bw
       refine ⟨_, rfl, (HG.out.h.pick [1, 2, 3, 4] _ rfl), ?_⟩
       refine sq_done ?_
       refine m_maskk (M' := 511) ?_
       refine m_seqi (f := 2) [(false, 9)] 1023 (HG.out.h.pick [1, 2, 3, 4] _ rfl) ?_
       replace HG := Lib.hid (HG.out.new (spE (false, (noP, ⟨#[]⟩), (noP, ⟨#[]⟩))) 68)
       refine sq_allock (some 10) 68 (spE (false, (noP, ⟨#[]⟩), (noP, ⟨#[]⟩))) (zero_spe _) (HG.out.h.pick [2, 3, 4, 5] _ rfl) ?_
       generalize v603.alloc _ = u604 at *
       generalize v603.heap.size = g6b at *
       refine sq_done ?_
       refine m_maskk (M' := 1023) ?_
       refine m_seqi (f := 1) [(false, 10)] 2047 (HG.out.h.pick [2, 3, 4, 5] _ rfl) ?_
       have HN := Lib.hid (HG.out.at 1 rfl)
       replace HG : Hid (Blks w (u604.setRow g6a (spE (z1, (x1, tp), (y1, tp)))) [(g6b, spE (false, (noP, ⟨#[]⟩), (noP, ⟨#[]⟩)), 68), (g6a, spE (z1, (x1, tp), (y1, tp)), 68), (g4, cvE (tn, tp, tr, tb, tk, sz, sc, br), 35), ((w.heap.size + 1 + 1), tqT (false, noP, noP), 27), ((w.heap.size + 1), tqT (z2, x2, y2), 27), (w.heap.size, tqT (z1, x1, y1), 27)]) := Lib.hid (HG.out.put 1 rfl (spE (z1, (x1, tp), (y1, tp))))
       refine sq_stk 68 g6a (spE (z1, (x1, tp), (y1, tp))) HN.out Tryz.infoSPq rfl (HG.out.h.pick [2, 3, 4, 5] _ rfl) ?_
       clear HN
       generalize World.setRow _ g6a _ = t605 at *
       refine sq_done ?_
       refine m_maskk (M' := 2047) ?_
       refine m_seqi (f := 0) [(false, 11)] 4095 (HG.out.h.pick [2, 3, 4, 5] _ rfl) ?_
       have HN := Lib.hid (HG.out.at 0 rfl)
       replace HG : Hid (Blks w (t605.setRow g6b (spE (z2, (x2, tp), (y2, tp)))) [(g6b, spE (z2, (x2, tp), (y2, tp)), 68), (g6a, spE (z1, (x1, tp), (y1, tp)), 68), (g4, cvE (tn, tp, tr, tb, tk, sz, sc, br), 35), ((w.heap.size + 1 + 1), tqT (false, noP, noP), 27), ((w.heap.size + 1), tqT (z2, x2, y2), 27), (w.heap.size, tqT (z1, x1, y1), 27)]) := Lib.hid (HG.out.put 0 rfl (spE (z2, (x2, tp), (y2, tp))))
       refine sq_stk 68 g6b (spE (z2, (x2, tp), (y2, tp))) HN.out Tryz.infoSPq rfl (HG.out.h.pick [2, 3, 4, 5] _ rfl) ?_
       clear HN
       generalize World.setRow _ g6b _ = t606 at *
       refine sq_done ?_
       refine m_maskk (M' := 4095) ?_
       refine m_donei { tmps := List.toArray (List.append [.int .i64 id, .agg (tqT (z1, x1, y1)), .agg (tqT (z2, x2, y2)), undef, .pointer (some ⟨w.heap.size, 0, none⟩), .pointer (some ⟨(w.heap.size + 1), 0, none⟩), .pointer (some ⟨(w.heap.size + 1 + 1), 0, none⟩), .pointer (some ⟨g4, 0, none⟩), .bool true, .pointer (some ⟨g6a, 0, none⟩), .pointer (some ⟨g6b, 0, none⟩), undef, .int .i64 id, .agg (tqT (z1, x1, y1)), .bool true, .bool false, .bool false, .int .i64 id, .agg (tqT (z2, x2, y2)), .bool true, .bool false, .bool false, undef, .tuple #[.agg (cvE (tn, tp, tr, tb, tk, sz, sc, br)), .bool true], .int .i64 id, .tuple #[.agg (cvE (tn, tp, tr, tb, tk, sz, sc, br)), .bool true], .agg (cvE (tn, tp, tr, tb, tk, sz, sc, br)), .bool true, .agg (tqT (z1, x1, y1)), .pointer (some ⟨g4, 1, none⟩), .string tp, .agg (spE (z1, (x1, tp), (y1, tp))), .agg (tqT (z2, x2, y2)), .pointer (some ⟨g4, 1, none⟩), .string tp, .agg (spE (z2, (x2, tp), (y2, tp))), undef, undef, undef, undef] ([undef, undef, undef, undef, undef, undef, undef, undef])), defers := [] } ?_
       exact ⟨rfl, g6a, g6b, rfl, HG.out.sub [1, 0, 2, 3, 4, 5] _ rfl (by decide)⟩
      ·replace HG := Lib.hid (HG.out.new (spE (false, (noP, ⟨#[]⟩), (noP, ⟨#[]⟩))) 68)
       refine sq_allock (some 10) 68 (spE (false, (noP, ⟨#[]⟩), (noP, ⟨#[]⟩))) (zero_spe _) (HG.out.h.pick [2, 3, 4, 5] _ rfl) ?_
       generalize v602.alloc _ = u603 at *
       generalize v602.heap.size = g6b at *
       refine sq_done ?_
       refine m_maskk (M' := 895) ?_
       refine m_seqi (f := 2) [(false, 7)] 1023 (HG.out.h.pick [2, 3, 4, 5] _ rfl) ?_
       refine sq_ck (some 35) Tryz.func36 (pairSpot_i (z2, x2, y2) tp _) ?_
       rintro e v604 ⟨rfl, bw⟩
       replace HG := Lib.hid (HG.out.on bw)
       clear bw
       refine ⟨_, rfl, (HG.out.h.pick [2, 3, 4, 5] _ rfl), ?_⟩
       refine sq_done ?_
       refine m_maskk (M' := 1023) ?_
       refine m_seqi (f := 1) [(false, 10)] 2047 (HG.out.h.pick [2, 3, 4, 5] _ rfl) ?_
       have HN := Lib.hid (HG.out.at 1 rfl)
       replace HG : Hid (Blks w (v604.setRow g6a (spE (z1, (x1, tp), (y1, tp)))) [(g6b, spE (false, (noP, ⟨#[]⟩), (noP, ⟨#[]⟩)), 68), (g6a, spE (z1, (x1, tp), (y1, tp)), 68), (g4, cvE (tn, tp, tr, tb, tk, sz, sc, br), 35), ((w.heap.size + 1 + 1), tqT (false, noP, noP), 27), ((w.heap.size + 1), tqT (z2, x2, y2), 27), (w.heap.size, tqT (z1, x1, y1), 27)]) := Lib.hid (HG.out.put 1 rfl (spE (z1, (x1, tp), (y1, tp))))
       refine sq_stk 68 g6a (spE (z1, (x1, tp), (y1, tp))) HN.out Tryz.infoSPq rfl (HG.out.h.pick [2, 3, 4, 5] _ rfl) ?_
       clear HN
       generalize World.setRow _ g6a _ = t605 at *
       refine sq_done ?_
       refine m_maskk (M' := 2047) ?_
       refine m_seqi (f := 0) [(false, 11)] 4095 (HG.out.h.pick [2, 3, 4, 5] _ rfl) ?_
       have HN := Lib.hid (HG.out.at 0 rfl)
       replace HG : Hid (Blks w (t605.setRow g6b (spE (z2, (x2, tp), (y2, tp)))) [(g6b, spE (z2, (x2, tp), (y2, tp)), 68), (g6a, spE (z1, (x1, tp), (y1, tp)), 68), (g4, cvE (tn, tp, tr, tb, tk, sz, sc, br), 35), ((w.heap.size + 1 + 1), tqT (false, noP, noP), 27), ((w.heap.size + 1), tqT (z2, x2, y2), 27), (w.heap.size, tqT (z1, x1, y1), 27)]) := Lib.hid (HG.out.put 0 rfl (spE (z2, (x2, tp), (y2, tp))))
       refine sq_stk 68 g6b (spE (z2, (x2, tp), (y2, tp))) HN.out Tryz.infoSPq rfl (HG.out.h.pick [2, 3, 4, 5] _ rfl) ?_
       clear HN
       generalize World.setRow _ g6b _ = t606 at *
       refine sq_done ?_
       refine m_maskk (M' := 4095) ?_
       refine m_donei { tmps := List.toArray (List.append [.int .i64 id, .agg (tqT (z1, x1, y1)), .agg (tqT (z2, x2, y2)), undef, .pointer (some ⟨w.heap.size, 0, none⟩), .pointer (some ⟨(w.heap.size + 1), 0, none⟩), .pointer (some ⟨(w.heap.size + 1 + 1), 0, none⟩), .pointer (some ⟨g4, 0, none⟩), .bool true, .pointer (some ⟨g6a, 0, none⟩), .pointer (some ⟨g6b, 0, none⟩), undef, .int .i64 id, .agg (tqT (z1, x1, y1)), .bool true, .bool false, .bool false, .int .i64 id, .agg (tqT (z2, x2, y2)), .bool true, .bool false, .bool false, undef, .tuple #[.agg (cvE (tn, tp, tr, tb, tk, sz, sc, br)), .bool true], .int .i64 id, .tuple #[.agg (cvE (tn, tp, tr, tb, tk, sz, sc, br)), .bool true], .agg (cvE (tn, tp, tr, tb, tk, sz, sc, br)), .bool true, .agg (tqT (z1, x1, y1)), .pointer (some ⟨g4, 1, none⟩), .string tp, .agg (spE (z1, (x1, tp), (y1, tp))), .agg (tqT (z2, x2, y2)), .pointer (some ⟨g4, 1, none⟩), .string tp, .agg (spE (z2, (x2, tp), (y2, tp))), undef, undef, undef, undef] ([undef, undef, undef, undef, undef, undef, undef, undef])), defers := [] } ?_
       exact ⟨rfl, g6a, g6b, rfl, HG.out.sub [1, 0, 2, 3, 4, 5] _ rfl (by decide)⟩
     ·replace HG := Lib.hid (HG.out.new (spE (false, (noP, ⟨#[]⟩), (noP, ⟨#[]⟩))) 68)
      refine sq_allock (some 10) 68 (spE (false, (noP, ⟨#[]⟩), (noP, ⟨#[]⟩))) (zero_spe _) (HG.out.h.pick [2, 3, 4, 5] _ rfl) ?_
      generalize u601.alloc _ = u602 at *
      generalize u601.heap.size = g6b at *
      refine sq_done ?_
      refine m_maskk (M' := 887) ?_
      refine m_seqi (f := 3) [(false, 3)] 895 (HG.out.h.pick [2, 3, 4, 5] _ rfl) ?_
      refine sq_ck (some 31) Tryz.func36 (pairSpot_i (z1, x1, y1) tp _) ?_
      rintro e v603 ⟨rfl, bw⟩
      replace HG := Lib.hid (HG.out.on bw)
      clear bw
      refine ⟨_, rfl, (HG.out.h.pick [2, 3, 4, 5] _ rfl), ?_⟩
      refine sq_done ?_
      refine m_maskk (M' := 895) ?_
      refine m_seqi (f := 2) [(false, 7)] 1023 (HG.out.h.pick [2, 3, 4, 5] _ rfl) ?_
      refine sq_ck (some 35) Tryz.func36 (pairSpot_i (z2, x2, y2) tp _) ?_
      rintro e v604 ⟨rfl, bw⟩
      replace HG := Lib.hid (HG.out.on bw)
      clear bw
      refine ⟨_, rfl, (HG.out.h.pick [2, 3, 4, 5] _ rfl), ?_⟩
      refine sq_done ?_
      refine m_maskk (M' := 1023) ?_
      refine m_seqi (f := 1) [(false, 10)] 2047 (HG.out.h.pick [2, 3, 4, 5] _ rfl) ?_
      have HN := Lib.hid (HG.out.at 1 rfl)
      replace HG : Hid (Blks w (v604.setRow g6a (spE (z1, (x1, tp), (y1, tp)))) [(g6b, spE (false, (noP, ⟨#[]⟩), (noP, ⟨#[]⟩)), 68), (g6a, spE (z1, (x1, tp), (y1, tp)), 68), (g4, cvE (tn, tp, tr, tb, tk, sz, sc, br), 35), ((w.heap.size + 1 + 1), tqT (false, noP, noP), 27), ((w.heap.size + 1), tqT (z2, x2, y2), 27), (w.heap.size, tqT (z1, x1, y1), 27)]) := Lib.hid (HG.out.put 1 rfl (spE (z1, (x1, tp), (y1, tp))))
      refine sq_stk 68 g6a (spE (z1, (x1, tp), (y1, tp))) HN.out Tryz.infoSPq rfl (HG.out.h.pick [2, 3, 4, 5] _ rfl) ?_
      clear HN
      generalize World.setRow _ g6a _ = t605 at *
      refine sq_done ?_
      refine m_maskk (M' := 2047) ?_
      refine m_seqi (f := 0) [(false, 11)] 4095 (HG.out.h.pick [2, 3, 4, 5] _ rfl) ?_
      have HN := Lib.hid (HG.out.at 0 rfl)
      replace HG : Hid (Blks w (t605.setRow g6b (spE (z2, (x2, tp), (y2, tp)))) [(g6b, spE (z2, (x2, tp), (y2, tp)), 68), (g6a, spE (z1, (x1, tp), (y1, tp)), 68), (g4, cvE (tn, tp, tr, tb, tk, sz, sc, br), 35), ((w.heap.size + 1 + 1), tqT (false, noP, noP), 27), ((w.heap.size + 1), tqT (z2, x2, y2), 27), (w.heap.size, tqT (z1, x1, y1), 27)]) := Lib.hid (HG.out.put 0 rfl (spE (z2, (x2, tp), (y2, tp))))
      refine sq_stk 68 g6b (spE (z2, (x2, tp), (y2, tp))) HN.out Tryz.infoSPq rfl (HG.out.h.pick [2, 3, 4, 5] _ rfl) ?_
      clear HN
      generalize World.setRow _ g6b _ = t606 at *
      refine sq_done ?_
      refine m_maskk (M' := 4095) ?_
      refine m_donei { tmps := List.toArray (List.append [.int .i64 id, .agg (tqT (z1, x1, y1)), .agg (tqT (z2, x2, y2)), undef, .pointer (some ⟨w.heap.size, 0, none⟩), .pointer (some ⟨(w.heap.size + 1), 0, none⟩), .pointer (some ⟨(w.heap.size + 1 + 1), 0, none⟩), .pointer (some ⟨g4, 0, none⟩), .bool true, .pointer (some ⟨g6a, 0, none⟩), .pointer (some ⟨g6b, 0, none⟩), undef, .int .i64 id, .agg (tqT (z1, x1, y1)), .bool true, .bool false, .bool false, .int .i64 id, .agg (tqT (z2, x2, y2)), .bool true, .bool false, .bool false, undef, .tuple #[.agg (cvE (tn, tp, tr, tb, tk, sz, sc, br)), .bool true], .int .i64 id, .tuple #[.agg (cvE (tn, tp, tr, tb, tk, sz, sc, br)), .bool true], .agg (cvE (tn, tp, tr, tb, tk, sz, sc, br)), .bool true, .agg (tqT (z1, x1, y1)), .pointer (some ⟨g4, 1, none⟩), .string tp, .agg (spE (z1, (x1, tp), (y1, tp))), .agg (tqT (z2, x2, y2)), .pointer (some ⟨g4, 1, none⟩), .string tp, .agg (spE (z2, (x2, tp), (y2, tp))), undef, undef, undef, undef] ([undef, undef, undef, undef, undef, undef, undef, undef])), defers := [] } ?_
      exact ⟨rfl, g6a, g6b, rfl, HG.out.sub [1, 0, 2, 3, 4, 5] _ rfl (by decide)⟩
    ·replace HG := Lib.hid (HG.out.new (spE (false, (noP, ⟨#[]⟩), (noP, ⟨#[]⟩))) 68)
     refine sq_allock (some 10) 68 (spE (false, (noP, ⟨#[]⟩), (noP, ⟨#[]⟩))) (zero_spe _) (HG.out.h.pick [1, 2, 3, 4] _ rfl) ?_
     generalize v600.alloc _ = u601 at *
     generalize v600.heap.size = g6b at *
     refine sq_done ?_
     refine m_maskk (M' := 631) ?_
     refine m_waysi (f := 4) [3, 8] ?_
     intro i hi
     rcases (by simpa using hi : i = 3 ∨ i = 8) with rfl | rfl
     ·refine sq_ck (some 31) Tryz.func36 (pairSpot_i (z1, x1, y1) tp _) ?_
      rintro e v602 ⟨rfl, bw⟩
      replace HG := Lib.hid (HG.out.on bw)
      clear bw
      refine ⟨_, rfl, (HG.out.h.pick [1, 2, 3, 4] _ rfl), ?_⟩
      refine sq_done ?_
      refine m_maskk (M' := 639) ?_
      refine m_waysi (f := 3) [7, 8] ?_
      intro i hi
      rcases (by simpa using hi : i = 7 ∨ i = 8) with rfl | rfl
      ·refine sq_ck (some 35) Tryz.func36 (pairSpot_i (z2, x2, y2) tp _) ?_
       rintro e v603 ⟨rfl, bw⟩
       replace HG := Lib.hid (HG.out.on bw)
       clear bw
       refine ⟨_, rfl, (HG.out.h.pick [1, 2, 3, 4] _ rfl), ?_⟩
       refine sq_done ?_
       refine m_maskk (M' := 767) ?_
       refine m_seqi (f := 2) [(false, 8)] 1023 (HG.out.h.pick [1, 2, 3, 4] _ rfl) ?_
       replace HG := Lib.hid (HG.out.new (spE (false, (noP, ⟨#[]⟩), (noP, ⟨#[]⟩))) 68)
       refine sq_allock (some 9) 68 (spE (false, (noP, ⟨#[]⟩), (noP, ⟨#[]⟩))) (zero_spe _) (HG.out.h.pick [2, 3, 4, 5] _ rfl) ?_
       generalize v603.alloc _ = u604 at *
       generalize v603.heap.size = g6a at *
       refine sq_done ?_
       refine m_maskk (M' := 1023) ?_
       refine m_seqi (f := 1) [(false, 10)] 2047 (HG.out.h.pick [2, 3, 4, 5] _ rfl) ?_
       have HN := Lib.hid (HG.out.at 0 rfl)
       replace HG : Hid (Blks w (u604.setRow g6a (spE (z1, (x1, tp), (y1, tp)))) [(g6a, spE (z1, (x1, tp), (y1, tp)), 68), (g6b, spE (false, (noP, ⟨#[]⟩), (noP, ⟨#[]⟩)), 68), (g4, cvE (tn, tp, tr, tb, tk, sz, sc, br), 35), ((w.heap.size + 1 + 1), tqT (false, noP, noP), 27), ((w.heap.size + 1), tqT (z2, x2, y2), 27), (w.heap.size, tqT (z1, x1, y1), 27)]) := Lib.hid (HG.out.put 0 rfl (spE (z1, (x1, tp), (y1, tp))))
       refine sq_stk 68 g6a (spE (z1, (x1, tp), (y1, tp))) HN.out Tryz.infoSPq rfl (HG.out.h.pick [2, 3, 4, 5] _ rfl) ?_
       clear HN
       generalize World.setRow _ g6a _ = t605 at *
       refine sq_done ?_
       refine m_maskk (M' := 2047) ?_
       refine m_seqi (f := 0) [(false, 11)] 4095 (HG.out.h.pick [2, 3, 4, 5] _ rfl) ?_
       have HN := Lib.hid (HG.out.at 1 rfl)
       replace HG : Hid (Blks w (t605.setRow g6b (spE (z2, (x2, tp), (y2, tp)))) [(g6a, spE (z1, (x1, tp), (y1, tp)), 68), (g6b, spE (z2, (x2, tp), (y2, tp)), 68), (g4, cvE (tn, tp, tr, tb, tk, sz, sc, br), 35), ((w.heap.size + 1 + 1), tqT (false, noP, noP), 27), ((w.heap.size + 1), tqT (z2, x2, y2), 27), (w.heap.size, tqT (z1, x1, y1), 27)]) := Lib.hid (HG.out.put 1 rfl (spE (z2, (x2, tp), (y2, tp))))
       refine sq_stk 68 g6b (spE (z2, (x2, tp), (y2, tp))) HN.out Tryz.infoSPq rfl (HG.out.h.pick [2, 3, 4, 5] _ rfl) ?_
       clear HN
       generalize World.setRow _ g6b _ = t606 at *
       refine sq_done ?_
       refine m_maskk (M' := 4095) ?_
       refine m_donei { tmps := List.toArray (List.append [.int .i64 id, .agg (tqT (z1, x1, y1)), .agg (tqT (z2, x2, y2)), undef, .pointer (some ⟨w.heap.size, 0, none⟩), .pointer (some ⟨(w.heap.size + 1), 0, none⟩), .pointer (some ⟨(w.heap.size + 1 + 1), 0, none⟩), .pointer (some ⟨g4, 0, none⟩), .bool true, .pointer (some ⟨g6a, 0, none⟩), .pointer (some ⟨g6b, 0, none⟩), undef, .int .i64 id, .agg (tqT (z1, x1, y1)), .bool true, .bool false, .bool false, .int .i64 id, .agg (tqT (z2, x2, y2)), .bool true, .bool false, .bool false, undef, .tuple #[.agg (cvE (tn, tp, tr, tb, tk, sz, sc, br)), .bool true], .int .i64 id, .tuple #[.agg (cvE (tn, tp, tr, tb, tk, sz, sc, br)), .bool true], .agg (cvE (tn, tp, tr, tb, tk, sz, sc, br)), .bool true, .agg (tqT (z1, x1, y1)), .pointer (some ⟨g4, 1, none⟩), .string tp, .agg (spE (z1, (x1, tp), (y1, tp))), .agg (tqT (z2, x2, y2)), .pointer (some ⟨g4, 1, none⟩), .string tp, .agg (spE (z2, (x2, tp), (y2, tp))), undef, undef, undef, undef] ([undef, undef, undef, undef, undef, undef, undef, undef])), defers := [] } ?_
       exact ⟨rfl, g6a, g6b, rfl, HG.out.sub [0, 1, 2, 3, 4, 5] _ rfl (by decide)⟩
      ·replace HG := Lib.hid (HG.out.new (spE (false, (noP, ⟨#[]⟩), (noP, ⟨#[]⟩))) 68)
       refine sq_allock (some 9) 68 (spE (false, (noP, ⟨#[]⟩), (noP, ⟨#[]⟩))) (zero_spe _) (HG.out.h.pick [2, 3, 4, 5] _ rfl) ?_
       generalize v602.alloc _ = u603 at *
       generalize v602.heap.size = g6a at *
       refine sq_done ?_
       refine m_maskk (M' := 895) ?_
       refine m_seqi (f := 2) [(false, 7)] 1023 (HG.out.h.pick [2, 3, 4, 5] _ rfl) ?_
       refine sq_ck (some 35) Tryz.func36 (pairSpot_i (z2, x2, y2) tp _) ?_
       rintro e v604 ⟨rfl, bw⟩
       replace HG := Lib.hid (HG.out.on bw)
       clear bw
       refine ⟨_, rfl, (HG.out.h.pick [2, 3, 4, 5] _ rfl), ?_⟩
       refine sq_done ?_
       refine m_maskk (M' := 1023) ?_
       refine m_seqi (f := 1) [(false, 10)] 2047 (HG.out.h.pick [2, 3, 4, 5] _ rfl) ?_
       have HN := Lib.hid (HG.out.at 0 rfl)
       replace HG : Hid (Blks w (v604.setRow g6a (spE (z1, (x1, tp), (y1, tp)))) [(g6a, spE (z1, (x1, tp), (y1, tp)), 68), (g6b, spE (false, (noP, ⟨#[]⟩), (noP, ⟨#[]⟩)), 68), (g4, cvE (tn, tp, tr, tb, tk, sz, sc, br), 35), ((w.heap.size + 1 + 1), tqT (false, noP, noP), 27), ((w.heap.size + 1), tqT (z2, x2, y2), 27), (w.heap.size, tqT (z1, x1, y1), 27)]) := Lib.hid (HG.out.put 0 rfl (spE (z1, (x1, tp), (y1, tp))))
       refine sq_stk 68 g6a (spE (z1, (x1, tp), (y1, tp))) HN.out Tryz.infoSPq rfl (HG.out.h.pick [2, 3, 4, 5] _ rfl) ?_
       clear HN
       generalize World.setRow _ g6a _ = t605 at *
       refine sq_done ?_
       refine m_maskk (M' := 2047) ?_
       refine m_seqi (f := 0) [(false, 11)] 4095 (HG.out.h.pick [2, 3, 4, 5] _ rfl) ?_
       have HN := Lib.hid (HG.out.at 1 rfl)
       replace HG : Hid (Blks w (t605.setRow g6b (spE (z2, (x2, tp), (y2, tp)))) [(g6a, spE (z1, (x1, tp), (y1, tp)), 68), (g6b, spE (z2, (x2, tp), (y2, tp)), 68), (g4, cvE (tn, tp, tr, tb, tk, sz, sc, br), 35), ((w.heap.size + 1 + 1), tqT (false, noP, noP), 27), ((w.heap.size + 1), tqT (z2, x2, y2), 27), (w.heap.size, tqT (z1, x1, y1), 27)]) := Lib.hid (HG.out.put 1 rfl (spE (z2, (x2, tp), (y2, tp))))
       refine sq_stk 68 g6b (spE (z2, (x2, tp), (y2, tp))) HN.out Tryz.infoSPq rfl (HG.out.h.pick [2, 3, 4, 5] _ rfl) ?_
       clear HN
       generalize World.setRow _ g6b _ = t606 at *
       refine sq_done ?_
       refine m_maskk (M' := 4095) ?_
       refine m_donei { tmps := List.toArray (List.append [.int .i64 id, .agg (tqT (z1, x1, y1)), .agg (tqT (z2, x2, y2)), undef, .pointer (some ⟨w.heap.size, 0, none⟩), .pointer (some ⟨(w.heap.size + 1), 0, none⟩), .pointer (some ⟨(w.heap.size + 1 + 1), 0, none⟩), .pointer (some ⟨g4, 0, none⟩), .bool true, .pointer (some ⟨g6a, 0, none⟩), .pointer (some ⟨g6b, 0, none⟩), undef, .int .i64 id, .agg (tqT (z1, x1, y1)), .bool true, .bool false, .bool false, .int .i64 id, .agg (tqT (z2, x2, y2)), .bool true, .bool false, .bool false, undef, .tuple #[.agg (cvE (tn, tp, tr, tb, tk, sz, sc, br)), .bool true], .int .i64 id, .tuple #[.agg (cvE (tn, tp, tr, tb, tk, sz, sc, br)), .bool true], .agg (cvE (tn, tp, tr, tb, tk, sz, sc, br)), .bool true, .agg (tqT (z1, x1, y1)), .pointer (some ⟨g4, 1, none⟩), .string tp, .agg (spE (z1, (x1, tp), (y1, tp))), .agg (tqT (z2, x2, y2)), .pointer (some ⟨g4, 1, none⟩), .string tp, .agg (spE (z2, (x2, tp), (y2, tp))), undef, undef, undef, undef] ([undef, undef, undef, undef, undef, undef, undef, undef])), defers := [] } ?_
       exact ⟨rfl, g6a, g6b, rfl, HG.out.sub [0, 1, 2, 3, 4, 5] _ rfl (by decide)⟩
     ·replace HG := Lib.hid (HG.out.new (spE (false, (noP, ⟨#[]⟩), (noP, ⟨#[]⟩))) 68)
      refine sq_allock (some 9) 68 (spE (false, (noP, ⟨#[]⟩), (noP, ⟨#[]⟩))) (zero_spe _) (HG.out.h.pick [2, 3, 4, 5] _ rfl) ?_
      generalize u601.alloc _ = u602 at *
      generalize u601.heap.size = g6a at *
      refine sq_done ?_
      refine m_maskk (M' := 887) ?_
      refine m_seqi (f := 3) [(false, 3)] 895 (HG.out.h.pick [2, 3, 4, 5] _ rfl) ?_
      refine sq_ck (some 31) Tryz.func36 (pairSpot_i (z1, x1, y1) tp _) ?_
      rintro e v603 ⟨rfl, bw⟩
      replace HG := Lib.hid (HG.out.on bw)
      clear bw
      refine ⟨_, rfl, (HG.out.h.pick [2, 3, 4, 5] _ rfl), ?_⟩
      refine sq_done ?_
      refine m_maskk (M' := 895) ?_
      refine m_seqi (f := 2) [(false, 7)] 1023 (HG.out.h.pick [2, 3, 4, 5] _ rfl) ?_
      refine sq_ck (some 35) Tryz.func36 (pairSpot_i (z2, x2, y2) tp _) ?_
      rintro e v604 ⟨rfl, bw⟩
      replace HG := Lib.hid (HG.out.on bw)
      clear bw
      refine ⟨_, rfl, (HG.out.h.pick [2, 3, 4, 5] _ rfl), ?_⟩
      refine sq_done ?_
      refine m_maskk (M' := 1023) ?_
      refine m_seqi (f := 1) [(false, 10)] 2047 (HG.out.h.pick [2, 3, 4, 5] _ rfl) ?_
      have HN := Lib.hid (HG.out.at 0 rfl)
      replace HG : Hid (Blks w (v604.setRow g6a (spE (z1, (x1, tp), (y1, tp)))) [(g6a, spE (z1, (x1, tp), (y1, tp)), 68), (g6b, spE (false, (noP, ⟨#[]⟩), (noP, ⟨#[]⟩)), 68), (g4, cvE (tn, tp, tr, tb, tk, sz, sc, br), 35), ((w.heap.size + 1 + 1), tqT (false, noP, noP), 27), ((w.heap.size + 1), tqT (z2, x2, y2), 27), (w.heap.size, tqT (z1, x1, y1), 27)]) := Lib.hid (HG.out.put 0 rfl (spE (z1, (x1, tp), (y1, tp))))
      refine sq_stk 68 g6a (spE (z1, (x1, tp), (y1, tp))) HN.out Tryz.infoSPq rfl (HG.out.h.pick [2, 3, 4, 5] _ rfl) ?_
      clear HN
      generalize World.setRow _ g6a _ = t605 at *
      refine sq_done ?_
      refine m_maskk (M' := 2047) ?_
      refine m_seqi (f := 0) [(false, 11)] 4095 (HG.out.h.pick [2, 3, 4, 5] _ rfl) ?_
      have HN := Lib.hid (HG.out.at 1 rfl)
      replace HG : Hid (Blks w (t605.setRow g6b (spE (z2, (x2, tp), (y2, tp)))) [(g6a, spE (z1, (x1, tp), (y1, tp)), 68), (g6b, spE (z2, (x2, tp), (y2, tp)), 68), (g4, cvE (tn, tp, tr, tb, tk, sz, sc, br), 35), ((w.heap.size + 1 + 1), tqT (false, noP, noP), 27), ((w.heap.size + 1), tqT (z2, x2, y2), 27), (w.heap.size, tqT (z1, x1, y1), 27)]) := Lib.hid (HG.out.put 1 rfl (spE (z2, (x2, tp), (y2, tp))))
      refine sq_stk 68 g6b (spE (z2, (x2, tp), (y2, tp))) HN.out Tryz.infoSPq rfl (HG.out.h.pick [2, 3, 4, 5] _ rfl) ?_
      clear HN
      generalize World.setRow _ g6b _ = t606 at *
      refine sq_done ?_
      refine m_maskk (M' := 4095) ?_
      refine m_donei { tmps := List.toArray (List.append [.int .i64 id, .agg (tqT (z1, x1, y1)), .agg (tqT (z2, x2, y2)), undef, .pointer (some ⟨w.heap.size, 0, none⟩), .pointer (some ⟨(w.heap.size + 1), 0, none⟩), .pointer (some ⟨(w.heap.size + 1 + 1), 0, none⟩), .pointer (some ⟨g4, 0, none⟩), .bool true, .pointer (some ⟨g6a, 0, none⟩), .pointer (some ⟨g6b, 0, none⟩), undef, .int .i64 id, .agg (tqT (z1, x1, y1)), .bool true, .bool false, .bool false, .int .i64 id, .agg (tqT (z2, x2, y2)), .bool true, .bool false, .bool false, undef, .tuple #[.agg (cvE (tn, tp, tr, tb, tk, sz, sc, br)), .bool true], .int .i64 id, .tuple #[.agg (cvE (tn, tp, tr, tb, tk, sz, sc, br)), .bool true], .agg (cvE (tn, tp, tr, tb, tk, sz, sc, br)), .bool true, .agg (tqT (z1, x1, y1)), .pointer (some ⟨g4, 1, none⟩), .string tp, .agg (spE (z1, (x1, tp), (y1, tp))), .agg (tqT (z2, x2, y2)), .pointer (some ⟨g4, 1, none⟩), .string tp, .agg (spE (z2, (x2, tp), (y2, tp))), undef, undef, undef, undef] ([undef, undef, undef, undef, undef, undef, undef, undef])), defers := [] } ?_
      exact ⟨rfl, g6a, g6b, rfl, HG.out.sub [0, 1, 2, 3, 4, 5] _ rfl (by decide)⟩
   rintro e a t6 ⟨rfl, g6a, g6b, rfl, hG⟩
   replace HG := Lib.hid hG
   clear hG
   refine ‹∀ a w, Code.wp _ _ _ a w → _› _ _ ?_
   go_upto_region 5 with (fail)
   replace HS : Hid (Held t6 [(g6a, spE (z1, (x1, tp), (y1, tp)), 68), (g6b, spE (z2, (x2, tp), (y2, tp)), 68), (g4, cvE (tn, tp, tr, tb, tk, sz, sc, br), 35), ((w.heap.size + 1 + 1), tqT (false, noP, noP), 27), ((w.heap.size + 1), tqT (z2, x2, y2), 27), (w.heap.size, tqT (z1, x1, y1), 27)]) := Lib.hid (HG.out.h.pick [0, 1, 2, 3, 4, 5] _ rfl)
   refine wp_region_linek (S := fun w' => Held w' [(g6a, spE (z1, (x1, tp), (y1, tp)), 68), (g6b, spE (z2, (x2, tp), (y2, tp)), 68), (g4, cvE (tn, tp, tr, tb, tk, sz, sc, br), 35), ((w.heap.size + 1 + 1), tqT (false, noP, noP), 27), ((w.heap.size + 1), tqT (z2, x2, y2), 27), (w.heap.size, tqT (z1, x1, y1), 27)]) [(true, 0), (true, 1), (false, 2), (false, 3), (false, 4)] HS.out ?_
   refine sq_ldk (some 36) (ld_mid' (D := spE (z1, (x1, tp), (y1, tp))) (k := 0) Tryz.underlying68 rfl Tryz.infoSPq (.head _) rfl) ?_
   refine sq_ldk (some 37) (ld_mid' (D := spE (z2, (x2, tp), (y2, tp))) (k := 0) Tryz.underlying68 rfl Tryz.infoSPq (.tail _ (.head _)) rfl) ?_
   refine sq_ck (some 38) Tryz.func37 (HSum.out _) ?_
   rintro e v7 ⟨⟨q, rfl⟩, bw⟩
   replace HG := Lib.hid (HG.out.on bw)
   clear bw
   refine ⟨_, rfl, (HG.out.h.pick [0, 1, 2, 3, 4, 5] _ rfl), ?_⟩
   replace HG := Lib.hid (HG.out.new (spE (false, (noP, ⟨#[]⟩), (noP, ⟨#[]⟩))) 68)
   refine sq_allock (some 11) 68 (spE (false, (noP, ⟨#[]⟩), (noP, ⟨#[]⟩))) (zero_spe _) (HG.out.h.pick [1, 2, 3, 4, 5, 6] _ rfl) ?_
   generalize v7.alloc _ = u8 at *
   generalize v7.heap.size = g8 at *
   have HN := Lib.hid (HG.out.at 0 rfl)
   replace HG : Hid (Blks w (u8.setRow g8 (spE (sz0, (sx, q), (sy, q)))) [(g8, spE (sz0, (sx, q), (sy, q)), 68), (g6a, spE (z1, (x1, tp), (y1, tp)), 68), (g6b, spE (z2, (x2, tp), (y2, tp)), 68), (g4, cvE (tn, tp, tr, tb, tk, sz, sc, br), 35), ((w.heap.size + 1 + 1), tqT (false, noP, noP), 27), ((w.heap.size + 1), tqT (z2, x2, y2), 27), (w.heap.size, tqT (z1, x1, y1), 27)]) := Lib.hid (HG.out.put 0 rfl (spE (sz0, (sx, q), (sy, q))))
   refine sq_stk 68 g8 (spE (sz0, (sx, q), (sy, q))) HN.out Tryz.infoSPq rfl (HG.out.h.pick [1, 2, 3, 4, 5, 6] _ rfl) ?_
   clear HN
   generalize World.setRow _ g8 _ = t9 at *
   refine sq_fink { tmps := List.toArray (List.append [.int .i64 id, .agg (tqT (z1, x1, y1)), .agg (tqT (z2, x2, y2)), undef, .pointer (some ⟨w.heap.size, 0, none⟩), .pointer (some ⟨(w.heap.size + 1), 0, none⟩), .pointer (some ⟨(w.heap.size + 1 + 1), 0, none⟩), .pointer (some ⟨g4, 0, none⟩), .bool true, .pointer (some ⟨g6a, 0, none⟩), .pointer (some ⟨g6b, 0, none⟩), .pointer (some ⟨g8, 0, none⟩), .int .i64 id, .agg (tqT (z1, x1, y1)), .bool true, .bool false, .bool false, .int .i64 id, .agg (tqT (z2, x2, y2)), .bool true, .bool false, .bool false, undef, .tuple #[.agg (cvE (tn, tp, tr, tb, tk, sz, sc, br)), .bool true], .int .i64 id, .tuple #[.agg (cvE (tn, tp, tr, tb, tk, sz, sc, br)), .bool true], .agg (cvE (tn, tp, tr, tb, tk, sz, sc, br)), .bool true, .agg (tqT (z1, x1, y1)), .pointer (some ⟨g4, 1, none⟩), .string tp, .agg (spE (z1, (x1, tp), (y1, tp))), .agg (tqT (z2, x2, y2)), .pointer (some ⟨g4, 1, none⟩), .string tp, .agg (spE (z2, (x2, tp), (y2, tp))), .agg (spE (z1, (x1, tp), (y1, tp))), .agg (spE (z2, (x2, tp), (y2, tp))), .agg (spE (sz0, (sx, q), (sy, q))), undef] ([undef, undef, undef, undef, undef, undef, undef, undef])), defers := [] } ?_
   refine ‹∀ a w, Code.wp _ _ _ a w → _› _ _ ?_
   go_upto_region 6 with (fail)
   replace HS : Hid (Held t9 [(g8, spE (sz0, (sx, q), (sy, q)), 68), (g6a, spE (z1, (x1, tp), (y1, tp)), 68), (g6b, spE (z2, (x2, tp), (y2, tp)), 68), (g4, cvE (tn, tp, tr, tb, tk, sz, sc, br), 35), ((w.heap.size + 1), tqT (z2, x2, y2), 27), (w.heap.size, tqT (z1, x1, y1), 27)]) := Lib.hid (HG.out.h.pick [0, 1, 2, 3, 5, 6] _ rfl)
   refine wp_region_linek (S := fun w' => Held w' [(g8, spE (sz0, (sx, q), (sy, q)), 68), (g6a, spE (z1, (x1, tp), (y1, tp)), 68), (g6b, spE (z2, (x2, tp), (y2, tp)), 68), (g4, cvE (tn, tp, tr, tb, tk, sz, sc, br), 35), ((w.heap.size + 1), tqT (z2, x2, y2), 27), (w.heap.size, tqT (z1, x1, y1), 27)]) [(true, 0), (true, 1), (true, 2), (true, 3), (true, 4), (true, 5), (true, 6), (true, 7), (true, 8), (false, 9)] HS.out ?_
   refine sq_psk [(0, .pointer (some ⟨g8, 0, none⟩))] ?_
   refine sq_ldk (some 40) (wk_b (.head _) (k := 0) rfl) ?_
   refine sq_psk [(2, .pointer (some ⟨g8, 1, none⟩)), (3, .pointer (some ⟨g8, 1, none⟩))] ?_
   refine sq_ldk (some 43) (ld_mid' (D := aggT sx) (k := 1) Tryz.underlying25 rfl Tryz.infoP (.head _) rfl) ?_
   refine sq_psk [(5, .pointer (some ⟨g8, 4, none⟩)), (6, .pointer (some ⟨g8, 4, none⟩))] ?_
   refine sq_ldk (some 46) (ld_mid' (D := aggT sy) (k := 4) Tryz.underlying25 rfl Tryz.infoP (.head _) rfl) ?_
   refine sq_pure (some 47) (.agg (tqT (sz0, sx, sy))) (by kernel_rfl) (by kernel_rfl) (held_build 27 #[(0, (.tmp 40)), (1, (.tmp 43)), (2, (.tmp 46))] (by kernel_rfl) _ (by kernel_rfl) _ (built_pq3 _ _ _)) ?_
   have HN := Lib.hid (HG.out.at 4 rfl)
   replace HG : Hid (Blks w (t9.setRow (w.heap.size + 1 + 1) (tqT (sz0, sx, sy))) [(g8, spE (sz0, (sx, q), (sy, q)), 68), (g6a, spE (z1, (x1, tp), (y1, tp)), 68), (g6b, spE (z2, (x2, tp), (y2, tp)), 68), (g4, cvE (tn, tp, tr, tb, tk, sz, sc, br), 35), ((w.heap.size + 1 + 1), tqT (sz0, sx, sy), 27), ((w.heap.size + 1), tqT (z2, x2, y2), 27), (w.heap.size, tqT (z1, x1, y1), 27)]) := Lib.hid (HG.out.put 4 rfl (tqT (sz0, sx, sy)))
   refine sq_stk 27 (w.heap.size + 1 + 1) (tqT (sz0, sx, sy)) HN.out Tryz.infoPq rfl (HG.out.h.pick [0, 1, 2, 3, 5, 6] _ rfl) ?_
   clear HN
   generalize World.setRow _ (w.heap.size + 1 + 1) _ = t10 at *
   refine sq_done ?_
   refine ‹∀ a w, Code.wp _ Code.ret _ a w → _› _ _ ?_
   refine wp_ret ?_
   try refine wk_block ?_
   try refine wk_then ?_
   exact bodyPost_ret (results_cell_row Tryz.results9 _ _ (w.heap.size + 1 + 1) _ _ _ _ (by kernel_rfl) (HG.out.at 4 rfl) Tryz.underlying27 rfl Tryz.infoPq) (by kernel_rfl) ⟨rfl, HG.out.b⟩
end Go.Proofs.YtdajgcgliidjbaaGreat

import Derived.Test.YtkmmlfocidfghaaGreatZPz
import Derived.Test.YtkmmlfocidfghaaGreatZPtX
import Derived.Test.YtkmmlfocidfghaaGreatZDraw
import Derived.Test.YtkmmlfocidfghaaGreatRLaw
namespace Go.Proofs.YtkmmlfocidfghaaGreat
open Go.RowKit
theorem yields_nePt {ops : Array Oper} {S : World → Prop} {o : Oper} {a : Act} (hw : Region.wanted o (yielded ops a.tmps) = true) (x y : Operand) (ho : o.op = .binOp .neq 25 x y 25) (s : Tp)
    (hx : a.eval x = .agg (tpT s)) (hy : a.eval y = .agg (tpT s)) : YieldsIf Tryz.prog ops S o (.bool false) a := by
  refine .inl ⟨hw, fun w _ => ?_⟩
  unfold tpT at hx hy
  unfold execOp
  simp only [ho, hx, hy]
  go_simp
theorem yields_eqbb {ops : Array Oper} {S : World → Prop} {o : Oper} {a : Act} (hw : Region.wanted o (yielded ops a.tmps) = true) (x y : Operand) (ho : o.op = .binOp .eql 4 x y 4) (b : Bool)
    (hx : a.eval x = .bool b) (hy : a.eval y = .bool b) : YieldsIf Tryz.prog ops S o (.bool true) a := by
  refine .inl ⟨hw, fun w _ => ?_⟩
  unfold execOp
  simp only [ho, hx, hy]
  cases b <;> go_simp
theorem one_b (w : World) : Calls Tryz.prog 12 #[] w fun e w' => e = .returned (.string ⟨#[1]⟩) ∧ Below w.heap.size w w' := (one_fn w).mono fun _ _ h => ⟨h.1, h.2 ▸ Below.refl _ _⟩
theorem base_one : baseT 1 = (false, ⟨#[1]⟩, ⟨#[2]⟩) := by decide +kernel
set_option maxRecDepth 8000 in
set_option maxHeartbeats 4000000 in
theorem lifts_walk (a0 : Option Addr) (len0 cap0 : Nat) (z0 : List Int) (w : World) (w0 : IsRow .u8 w a0 len0 cap0 z0) :
    Calls Tryz.prog 4 #[.slice a0 len0 cap0] w (Yes w) := by
  have hlen : len0 ≤ maxLen := by rcases w0 with ⟨_, rfl, _⟩ | ⟨_, _, h1, h2, _⟩ <;> unfold maxLen at * <;> omega
  have HBig := Lib.hid (big_g a0 len0 cap0 w hlen)
  by_cases h1 : 1048576 < len0
  · have hd : decide ((1048576 : Int) < (len0 : Int)) = true := by simp; omega
    clear w0 hlen
    go_enter Tryz.func4, Tryz.ntmps4
    go_wp2_with fail
    refine HBig.out.mono ?_
    rintro e w' ⟨rfl, rfl⟩
    go_wp2
    go_ret
    exact ⟨rfl, Below.refl _ _⟩
  have hd : decide ((1048576 : Int) < (len0 : Int)) = false := by simp; omega
  have hdr := w0.draw (by omega)
  have HD := Lib.hid (drawLift_c a0 len0 cap0 w hdr)
  clear w0 hlen h1 hdr
  go_enter Tryz.func4, Tryz.ntmps4
  go_wp2_with fail
  refine HBig.out.mono ?_
  rintro e w' ⟨rfl, rfl⟩
  go_wp2_with fail
  refine HD.out.mono ?_
  rintro e w1 ⟨id, x, gr, rfl, b1⟩
  have HG := Lib.hid (Stand.mk (Held.none w1) b1)
  have HI := Lib.hid (liftPoint_i id x gr)
  have HJ := Lib.hid (liftPoint_any id x gr)
  clear b1 HBig HD
  cases hok : liftB id x gr with
  | false =>
    rw [hok] at HI HJ
    have HR := Lib.hid (show liftG id x gr = noT from by unfold liftG; rw [hok]; rfl)
    clear hok
    generalize liftG id x gr = r at *
    go_upto_region 4 with (fail)
    have HS := Lib.hid HG.out.h
    refine wp_region_line (S := fun w' => Held w' []) [(true, 0), (true, 1), (true, 2), (false, 3), (true, 4), (true, 5), (true, 6), (false, 7), (false, 8), (true, 9)] (by kernel_rfl) (by kernel_rfl) HS.out ?_
    refine sq_ps [(0, .int .i64 id), (1, .string x), (2, .bool gr)] (by kernel_rfl) ?_
    refine sq_c (some 24) Tryz.func18 (HI.out _) (by kernel_rfl) ?_
    rintro e v6 ⟨rfl, bw⟩
    replace HG := Lib.hid (HG.out.on bw)
    have HS := Lib.hid (HG.out.h)
    clear bw
    refine ⟨_, rfl, HS.out, ?_⟩
    refine sq_ps [(4, .tuple #[.agg (tpT r), .bool false]), (5, .agg (tpT r)), (6, .bool false)] (by kernel_rfl) ?_
    have GEg7 := Lib.hid HG.out.b.size
    have APg7 := Lib.hid HG.out.h.apart
    replace HG := Lib.hid (HG.out.new (tpT noT) 25)
    have HS := Lib.hid (HG.out.h.tail)
    refine sq_alloc (some 6) 25 (tpT noT) (by kernel_rfl) (by kernel_rfl) (by kernel_rfl) (by kernel_rfl) (zero_pt _) HS.out ?_
    generalize v6.alloc _ = u7 at *
    generalize v6.heap.size = g7 at *
    have HN := Lib.hid (HG.out.h _ (.head _))
    replace HG := Lib.hid (HG.out.putAt GEg7.out APg7.out (tpT r))
    have HS := Lib.hid (HG.out.h.tail)
    refine sq_st 25 g7 (tpT r) HN.out Tryz.infoPoint rfl (by kernel_rfl) HS.out (by kernel_rfl) ?_
    clear HN
    generalize World.setRow _ g7 _ = t8 at *
    refine sq_ps [(9, .bool false)] (by kernel_rfl) ?_
    refine sq_fin { tmps := List.toArray (List.append [.slice a0 len0 cap0, undef, .bool false, .int .i64 id, .string x, .bool gr, .pointer (some ⟨g7, 0, none⟩), .bool false, undef, undef, undef, undef, .slice a0 len0 cap0, .bool false, .tuple #[.int .i64 id, .string x, .bool gr], .slice a0 len0 cap0, .tuple #[.int .i64 id, .string x, .bool gr], .int .i64 id, .string x, .bool gr, .tuple #[.agg (tpT r), .bool false], .int .i64 id, .string x, .bool gr, .tuple #[.agg (tpT r), .bool false], .agg (tpT r), .bool false, undef, undef, undef, undef, undef, undef, undef, undef, undef, undef, undef, undef, undef] (List.append [undef, undef, undef, undef, undef, undef, undef, undef, undef, undef, undef, undef, undef, undef, undef, undef, undef, undef, undef, undef, undef, undef, undef, undef, undef, undef, undef, undef, undef, undef, undef, undef, undef, undef, undef, undef, undef, undef, undef, undef] ([undef, undef, undef, undef, undef]))), defers := [] } (by kernel_rfl) ?_
    refine (by assumption : ∀ (a : Act) (w_1 : World), Code.wp _ _ _ a w_1 → _) _ _ ?_
    go_upto_region 5 with (fail)
    replace HS := Lib.hid HG.out.h
    refine wp_region_line (S := fun w' => Held w' [(g7, tpT r, 25)]) [(true, 0), (true, 1), (true, 2), (false, 3), (true, 4), (true, 5), (true, 6), (false, 7), (false, 8), (true, 9)] (by kernel_rfl) (by kernel_rfl) HS.out ?_
    refine sq_ps [(0, .int .i64 id), (1, .string x), (2, .bool gr)] (by kernel_rfl) ?_
    refine sq_c (some 31) Tryz.func19 (HJ.out _) (by kernel_rfl) ?_
    rintro e v9 ⟨rfl, bw⟩
    replace HG := Lib.hid (HG.out.on bw)
    have HS := Lib.hid (HG.out.h)
    clear bw
    refine ⟨_, rfl, HS.out, ?_⟩
    refine sq_ps [(4, .tuple #[.agg (tpT r), .bool false]), (5, .agg (tpT r)), (6, .bool false)] (by kernel_rfl) ?_
    have GEg10 := Lib.hid HG.out.b.size
    have APg10 := Lib.hid HG.out.h.apart
    replace HG := Lib.hid (HG.out.new (tpT noT) 25)
    have HS := Lib.hid (HG.out.h.tail)
    refine sq_alloc (some 8) 25 (tpT noT) (by kernel_rfl) (by kernel_rfl) (by kernel_rfl) (by kernel_rfl) (zero_pt _) HS.out ?_
    generalize v9.alloc _ = u10 at *
    generalize v9.heap.size = g10 at *
    have HN := Lib.hid (HG.out.h _ (.head _))
    replace HG := Lib.hid (HG.out.putAt GEg10.out APg10.out (tpT r))
    have HS := Lib.hid (HG.out.h.tail)
    refine sq_st 25 g10 (tpT r) HN.out Tryz.infoPoint rfl (by kernel_rfl) HS.out (by kernel_rfl) ?_
    clear HN
    generalize World.setRow _ g10 _ = t11 at *
    refine sq_ps [(9, .bool false)] (by kernel_rfl) ?_
    refine sq_fin { tmps := List.toArray (List.append [.slice a0 len0 cap0, undef, .bool false, .int .i64 id, .string x, .bool gr, .pointer (some ⟨g7, 0, none⟩), .bool false, .pointer (some ⟨g10, 0, none⟩), .bool false, undef, undef, .slice a0 len0 cap0, .bool false, .tuple #[.int .i64 id, .string x, .bool gr], .slice a0 len0 cap0, .tuple #[.int .i64 id, .string x, .bool gr], .int .i64 id, .string x, .bool gr, .tuple #[.agg (tpT r), .bool false], .int .i64 id, .string x, .bool gr, .tuple #[.agg (tpT r), .bool false], .agg (tpT r), .bool false, .tuple #[.agg (tpT r), .bool false], .int .i64 id, .string x, .bool gr, .tuple #[.agg (tpT r), .bool false], .agg (tpT r), .bool false, undef, undef, undef, undef, undef, undef] (List.append [undef, undef, undef, undef, undef, undef, undef, undef, undef, undef, undef, undef, undef, undef, undef, undef, undef, undef, undef, undef, undef, undef, undef, undef, undef, undef, undef, undef, undef, undef, undef, undef, undef, undef, undef, undef, undef, undef, undef, undef] ([undef, undef, undef, undef, undef]))), defers := [] } (by kernel_rfl) ?_
    refine (by assumption : ∀ (a : Act) (w_1 : World), Code.wp _ _ _ a w_1 → _) _ _ ?_
    go_upto_region 6 with (fail)
    replace HS := Lib.hid HG.out.h
    refine wp_region_line (S := fun w' => Held w' [(g10, tpT r, 25), (g7, tpT r, 25)]) [(true, 0), (true, 1), (true, 2), (true, 3), (true, 4), (true, 5), (true, 6), (true, 7)] (by kernel_rfl) (by kernel_rfl) HS.out ?_
    refine SQ.out ?_
    refine g_ps [(0, .bool false), (1, .bool false), (2, .bool false), (3, .bool false)] (by kernel_rfl) ?_
    refine g_ld (some 38) (ld_pt (.tail _ (.head _)) (by kernel_rfl)) (by kernel_rfl) ?_
    refine g_ld (some 39) (ld_pt (.head _) (by kernel_rfl)) (by kernel_rfl) ?_
    refine g_take (some 40) (.bool false) (by kernel_rfl) (yields_nePt (wanted_by (g := 3) (b := false) (d := 37) (by kernel_rfl) (by kernel_rfl) (by kernel_rfl) (by kernel_rfl)) (.tmp 38) (.tmp 39) (by kernel_rfl) r (by kernel_rfl) (by kernel_rfl)) ?_
    refine g_ps [(7, .bool false)] (by kernel_rfl) ?_
    refine g_norm { tmps := List.toArray (List.append [.slice a0 len0 cap0, undef, .bool false, .int .i64 id, .string x, .bool gr, .pointer (some ⟨g7, 0, none⟩), .bool false, .pointer (some ⟨g10, 0, none⟩), .bool false, undef, undef, .slice a0 len0 cap0, .bool false, .tuple #[.int .i64 id, .string x, .bool gr], .slice a0 len0 cap0, .tuple #[.int .i64 id, .string x, .bool gr], .int .i64 id, .string x, .bool gr, .tuple #[.agg (tpT r), .bool false], .int .i64 id, .string x, .bool gr, .tuple #[.agg (tpT r), .bool false], .agg (tpT r), .bool false, .tuple #[.agg (tpT r), .bool false], .int .i64 id, .string x, .bool gr, .tuple #[.agg (tpT r), .bool false], .agg (tpT r), .bool false, .bool false, .bool false, .bool false, .bool false, .agg (tpT r), .agg (tpT r)] (List.append [.bool false, .bool false, undef, undef, undef, undef, undef, undef, undef, undef, undef, undef, undef, undef, undef, undef, undef, undef, undef, undef, undef, undef, undef, undef, undef, undef, undef, undef, undef, undef, undef, undef, undef, undef, undef, undef, undef, undef, undef, undef] ([undef, undef, undef, undef, undef]))), defers := [] } (by kernel_rfl) ?_
    refine g_done ?_
    refine (by assumption : ∀ (a : Act) (w_1 : World), Code.wp _ _ _ a w_1 → _) _ _ ?_
    go_upto_region 8 with (fail)
    replace HS := Lib.hid HG.out.h
    refine wp_region_line (S := fun w' => Held w' [(g10, tpT r, 25), (g7, tpT r, 25)]) [(true, 0), (true, 1)] (by kernel_rfl) (by kernel_rfl) HS.out ?_
    refine sq_ps [(0, .bool false), (1, .bool true)] (by kernel_rfl) ?_
    refine sq_fin { tmps := List.toArray (List.append [.slice a0 len0 cap0, undef, .bool false, .int .i64 id, .string x, .bool gr, .pointer (some ⟨g7, 0, none⟩), .bool false, .pointer (some ⟨g10, 0, none⟩), .bool false, undef, undef, .slice a0 len0 cap0, .bool false, .tuple #[.int .i64 id, .string x, .bool gr], .slice a0 len0 cap0, .tuple #[.int .i64 id, .string x, .bool gr], .int .i64 id, .string x, .bool gr, .tuple #[.agg (tpT r), .bool false], .int .i64 id, .string x, .bool gr, .tuple #[.agg (tpT r), .bool false], .agg (tpT r), .bool false, .tuple #[.agg (tpT r), .bool false], .int .i64 id, .string x, .bool gr, .tuple #[.agg (tpT r), .bool false], .agg (tpT r), .bool false, .bool false, .bool false, .bool false, .bool false, .agg (tpT r), .agg (tpT r)] (List.append [.bool false, .bool false, .bool false, .bool true, undef, undef, undef, undef, undef, undef, undef, undef, undef, undef, undef, undef, undef, undef, undef, undef, undef, undef, undef, undef, undef, undef, undef, undef, undef, undef, undef, undef, undef, undef, undef, undef, undef, undef, undef, undef] ([undef, undef, undef, undef, undef]))), defers := [] } (by kernel_rfl) ?_
    refine (by assumption : ∀ (a : Act) (w_1 : World), Code.wp _ _ _ a w_1 → _) _ _ ?_
    go_upto_region 9 with (fail)
    replace HS := Lib.hid HG.out.h
    refine wp_region_line (S := fun w' => Held w' [(g10, tpT r, 25), (g7, tpT r, 25)]) [(true, 0), (true, 1), (true, 2), (true, 3), (false, 4), (false, 5), (true, 6), (true, 7), (true, 8), (true, 9)] (by kernel_rfl) (by kernel_rfl) HS.out ?_
    refine SQ.out ?_
    refine g_ld (some 44) (ld_pt (.tail _ (.head _)) (by kernel_rfl)) (by kernel_rfl) ?_
    refine g_pure (some 45) (.agg (tpT noT)) (by kernel_rfl) (by kernel_rfl) (held_build 25 #[] (by kernel_rfl) _ (by kernel_rfl) _ built_pt0) ?_
    refine g_take (some 46) (.bool true) (by kernel_rfl) (yields_eqPt (by kernel_rfl) (.tmp 44) (.tmp 45) (by kernel_rfl) r noT true (decide_eq_true HR.out) (by kernel_rfl) (by kernel_rfl)) ?_
    refine g_ps [(3, .bool true)] (by kernel_rfl) ?_
    refine g_c (some 48) Tryz.func11 (baseOf_i 1 _) (by kernel_rfl) ?_
    rintro e v12 ⟨rfl, bw⟩
    replace HG := Lib.hid (HG.out.on bw)
    have HS := Lib.hid (HG.out.h)
    clear bw
    refine ⟨_, rfl, HS.out, ?_⟩
    refine g_c (some 49) Tryz.func12 (one_b _) (by kernel_rfl) ?_
    rintro e v13 ⟨rfl, bw⟩
    replace HG := Lib.hid (HG.out.on bw)
    have HS := Lib.hid (HG.out.h)
    clear bw
    refine ⟨_, rfl, HS.out, ?_⟩
    refine g_pure (some 50) (.agg (tpT (false, ⟨#[1]⟩, ⟨#[2]⟩))) (by kernel_rfl) (wanted_by (g := 3) (b := true) (d := 47) (by kernel_rfl) (by kernel_rfl) (by kernel_rfl) (by kernel_rfl)) (held_build 25 #[(1, (.tmp 49)), (2, (.const (.string ⟨#[2]⟩)))] (by kernel_rfl) _ (by kernel_rfl) _ (built_point _ _)) ?_
    refine g_take (some 51) (.bool true) (by kernel_rfl) (yields_eqPt (wanted_by (g := 3) (b := true) (d := 47) (by kernel_rfl) (by kernel_rfl) (by kernel_rfl) (by kernel_rfl)) (.tmp 48) (.tmp 50) (by kernel_rfl) (baseT 1) (false, ⟨#[1]⟩, ⟨#[2]⟩) true (decide_eq_true base_one) (by kernel_rfl) (by kernel_rfl)) ?_
    refine g_ps [(8, .bool true), (9, .bool true)] (by kernel_rfl) ?_
    refine g_done ?_
    refine (by assumption : ∀ (a : Act) (w_1 : World), Code.wp _ Code.ret _ a w_1 → _) _ _ ?_
    refine wp_ret ?_
    try refine then_ret ?_
    exact ret_at (v := .bool true) Tryz.results4 (by kernel_rfl) (by kernel_rfl) ⟨rfl, HG.out.b⟩
  | true =>
    rw [hok] at HI HJ
    have LL := lift_laws hok
    have PL := point_laws (point_fit LL.ok).cv
    have HP := Lib.hid (pointOk_i id (liftG id x gr))
    rw [LL.ok] at HP
    have HGr := Lib.hid (greater_any (liftG id x gr).2.2 (cvPT id))
    rw [LL.eqY] at HGr
    have HX := Lib.hid LL.eqX
    have HN1 := Lib.hid (negPoint_i id (liftG id x gr))
    have HN2 := Lib.hid (negPoint_i id (negPtG id (liftG id x gr)))
    rw [PL.twice LL.ok] at HN2
    have HK := Lib.hid (curveOf_any id)
    have HC := Lib.hid (cv_in id)
    rw [(point_fit LL.ok).cv] at HK
    clear hok LL PL
    generalize negPtG id (liftG id x gr) = n at *
    generalize liftG id x gr = r at *
    generalize cvC id = C at *
    generalize cvPT id = tp at *
    go_upto_region 4 with (fail)
    have HS := Lib.hid HG.out.h
    refine wp_region_line (S := fun w' => Held w' []) [(true, 0), (true, 1), (true, 2), (false, 3), (true, 4), (true, 5), (true, 6), (false, 7), (false, 8), (true, 9)] (by kernel_rfl) (by kernel_rfl) HS.out ?_
    refine sq_ps [(0, .int .i64 id), (1, .string x), (2, .bool gr)] (by kernel_rfl) ?_
    refine sq_c (some 24) Tryz.func18 (HI.out _) (by kernel_rfl) ?_
    rintro e v6 ⟨rfl, bw⟩
    replace HG := Lib.hid (HG.out.on bw)
    have HS := Lib.hid (HG.out.h)
    clear bw
    refine ⟨_, rfl, HS.out, ?_⟩
    refine sq_ps [(4, .tuple #[.agg (tpT r), .bool true]), (5, .agg (tpT r)), (6, .bool true)] (by kernel_rfl) ?_
    have GEg7 := Lib.hid HG.out.b.size
    have APg7 := Lib.hid HG.out.h.apart
    replace HG := Lib.hid (HG.out.new (tpT noT) 25)
    have HS := Lib.hid (HG.out.h.tail)
    refine sq_alloc (some 6) 25 (tpT noT) (by kernel_rfl) (by kernel_rfl) (by kernel_rfl) (by kernel_rfl) (zero_pt _) HS.out ?_
    generalize v6.alloc _ = u7 at *
    generalize v6.heap.size = g7 at *
    have HN := Lib.hid (HG.out.h _ (.head _))
    replace HG := Lib.hid (HG.out.putAt GEg7.out APg7.out (tpT r))
    have HS := Lib.hid (HG.out.h.tail)
    refine sq_st 25 g7 (tpT r) HN.out Tryz.infoPoint rfl (by kernel_rfl) HS.out (by kernel_rfl) ?_
    clear HN
    generalize World.setRow _ g7 _ = t8 at *
    refine sq_ps [(9, .bool true)] (by kernel_rfl) ?_
    refine sq_fin { tmps := List.toArray (List.append [.slice a0 len0 cap0, undef, .bool false, .int .i64 id, .string x, .bool gr, .pointer (some ⟨g7, 0, none⟩), .bool true, undef, undef, undef, undef, .slice a0 len0 cap0, .bool false, .tuple #[.int .i64 id, .string x, .bool gr], .slice a0 len0 cap0, .tuple #[.int .i64 id, .string x, .bool gr], .int .i64 id, .string x, .bool gr, .tuple #[.agg (tpT r), .bool true], .int .i64 id, .string x, .bool gr, .tuple #[.agg (tpT r), .bool true], .agg (tpT r), .bool true, undef, undef, undef, undef, undef, undef, undef, undef, undef, undef, undef, undef, undef] (List.append [undef, undef, undef, undef, undef, undef, undef, undef, undef, undef, undef, undef, undef, undef, undef, undef, undef, undef, undef, undef, undef, undef, undef, undef, undef, undef, undef, undef, undef, undef, undef, undef, undef, undef, undef, undef, undef, undef, undef, undef] ([undef, undef, undef, undef, undef]))), defers := [] } (by kernel_rfl) ?_
    refine (by assumption : ∀ (a : Act) (w_1 : World), Code.wp _ _ _ a w_1 → _) _ _ ?_
    go_upto_region 5 with (fail)
    replace HS := Lib.hid HG.out.h
    refine wp_region_line (S := fun w' => Held w' [(g7, tpT r, 25)]) [(true, 0), (true, 1), (true, 2), (false, 3), (true, 4), (true, 5), (true, 6), (false, 7), (false, 8), (true, 9)] (by kernel_rfl) (by kernel_rfl) HS.out ?_
    refine sq_ps [(0, .int .i64 id), (1, .string x), (2, .bool gr)] (by kernel_rfl) ?_
    refine sq_c (some 31) Tryz.func19 (HJ.out _) (by kernel_rfl) ?_
    rintro e v9 ⟨rfl, bw⟩
    replace HG := Lib.hid (HG.out.on bw)
    have HS := Lib.hid (HG.out.h)
    clear bw
    refine ⟨_, rfl, HS.out, ?_⟩
    refine sq_ps [(4, .tuple #[.agg (tpT r), .bool true]), (5, .agg (tpT r)), (6, .bool true)] (by kernel_rfl) ?_
    have GEg10 := Lib.hid HG.out.b.size
    have APg10 := Lib.hid HG.out.h.apart
    replace HG := Lib.hid (HG.out.new (tpT noT) 25)
    have HS := Lib.hid (HG.out.h.tail)
    refine sq_alloc (some 8) 25 (tpT noT) (by kernel_rfl) (by kernel_rfl) (by kernel_rfl) (by kernel_rfl) (zero_pt _) HS.out ?_
    generalize v9.alloc _ = u10 at *
    generalize v9.heap.size = g10 at *
    have HN := Lib.hid (HG.out.h _ (.head _))
    replace HG := Lib.hid (HG.out.putAt GEg10.out APg10.out (tpT r))
    have HS := Lib.hid (HG.out.h.tail)
    refine sq_st 25 g10 (tpT r) HN.out Tryz.infoPoint rfl (by kernel_rfl) HS.out (by kernel_rfl) ?_
    clear HN
    generalize World.setRow _ g10 _ = t11 at *
    refine sq_ps [(9, .bool true)] (by kernel_rfl) ?_
    refine sq_fin { tmps := List.toArray (List.append [.slice a0 len0 cap0, undef, .bool false, .int .i64 id, .string x, .bool gr, .pointer (some ⟨g7, 0, none⟩), .bool true, .pointer (some ⟨g10, 0, none⟩), .bool true, undef, undef, .slice a0 len0 cap0, .bool false, .tuple #[.int .i64 id, .string x, .bool gr], .slice a0 len0 cap0, .tuple #[.int .i64 id, .string x, .bool gr], .int .i64 id, .string x, .bool gr, .tuple #[.agg (tpT r), .bool true], .int .i64 id, .string x, .bool gr, .tuple #[.agg (tpT r), .bool true], .agg (tpT r), .bool true, .tuple #[.agg (tpT r), .bool true], .int .i64 id, .string x, .bool gr, .tuple #[.agg (tpT r), .bool true], .agg (tpT r), .bool true, undef, undef, undef, undef, undef, undef] (List.append [undef, undef, undef, undef, undef, undef, undef, undef, undef, undef, undef, undef, undef, undef, undef, undef, undef, undef, undef, undef, undef, undef, undef, undef, undef, undef, undef, undef, undef, undef, undef, undef, undef, undef, undef, undef, undef, undef, undef, undef] ([undef, undef, undef, undef, undef]))), defers := [] } (by kernel_rfl) ?_
    refine (by assumption : ∀ (a : Act) (w_1 : World), Code.wp _ _ _ a w_1 → _) _ _ ?_
    go_upto_region 6 with (fail)
    replace HS := Lib.hid HG.out.h
    refine wp_region_line (S := fun w' => Held w' [(g10, tpT r, 25), (g7, tpT r, 25)]) [(true, 0), (true, 1), (true, 2), (true, 3), (true, 4), (true, 5), (true, 6), (true, 7)] (by kernel_rfl) (by kernel_rfl) HS.out ?_
    refine SQ.out ?_
    refine g_ps [(0, .bool true), (1, .bool true), (2, .bool false), (3, .bool false)] (by kernel_rfl) ?_
    refine g_ld (some 38) (ld_pt (.tail _ (.head _)) (by kernel_rfl)) (by kernel_rfl) ?_
    refine g_ld (some 39) (ld_pt (.head _) (by kernel_rfl)) (by kernel_rfl) ?_
    refine g_take (some 40) (.bool false) (by kernel_rfl) (yields_nePt (wanted_by (g := 3) (b := false) (d := 37) (by kernel_rfl) (by kernel_rfl) (by kernel_rfl) (by kernel_rfl)) (.tmp 38) (.tmp 39) (by kernel_rfl) r (by kernel_rfl) (by kernel_rfl)) ?_
    refine g_ps [(7, .bool false)] (by kernel_rfl) ?_
    refine g_norm { tmps := List.toArray (List.append [.slice a0 len0 cap0, undef, .bool false, .int .i64 id, .string x, .bool gr, .pointer (some ⟨g7, 0, none⟩), .bool true, .pointer (some ⟨g10, 0, none⟩), .bool true, undef, undef, .slice a0 len0 cap0, .bool false, .tuple #[.int .i64 id, .string x, .bool gr], .slice a0 len0 cap0, .tuple #[.int .i64 id, .string x, .bool gr], .int .i64 id, .string x, .bool gr, .tuple #[.agg (tpT r), .bool true], .int .i64 id, .string x, .bool gr, .tuple #[.agg (tpT r), .bool true], .agg (tpT r), .bool true, .tuple #[.agg (tpT r), .bool true], .int .i64 id, .string x, .bool gr, .tuple #[.agg (tpT r), .bool true], .agg (tpT r), .bool true, .bool true, .bool true, .bool false, .bool false, .agg (tpT r), .agg (tpT r)] (List.append [.bool false, .bool false, undef, undef, undef, undef, undef, undef, undef, undef, undef, undef, undef, undef, undef, undef, undef, undef, undef, undef, undef, undef, undef, undef, undef, undef, undef, undef, undef, undef, undef, undef, undef, undef, undef, undef, undef, undef, undef, undef] ([undef, undef, undef, undef, undef]))), defers := [] } (by kernel_rfl) ?_
    refine g_done ?_
    refine (by assumption : ∀ (a : Act) (w_1 : World), Code.wp _ _ _ a w_1 → _) _ _ ?_
    go_upto_region 8 with (fail)
    replace HS := Lib.hid HG.out.h
    refine wp_region_line (S := fun w' => Held w' [(g10, tpT r, 25), (g7, tpT r, 25)]) [(true, 0), (true, 1)] (by kernel_rfl) (by kernel_rfl) HS.out ?_
    refine sq_ps [(0, .bool true), (1, .bool false)] (by kernel_rfl) ?_
    refine sq_fin { tmps := List.toArray (List.append [.slice a0 len0 cap0, undef, .bool false, .int .i64 id, .string x, .bool gr, .pointer (some ⟨g7, 0, none⟩), .bool true, .pointer (some ⟨g10, 0, none⟩), .bool true, undef, undef, .slice a0 len0 cap0, .bool false, .tuple #[.int .i64 id, .string x, .bool gr], .slice a0 len0 cap0, .tuple #[.int .i64 id, .string x, .bool gr], .int .i64 id, .string x, .bool gr, .tuple #[.agg (tpT r), .bool true], .int .i64 id, .string x, .bool gr, .tuple #[.agg (tpT r), .bool true], .agg (tpT r), .bool true, .tuple #[.agg (tpT r), .bool true], .int .i64 id, .string x, .bool gr, .tuple #[.agg (tpT r), .bool true], .agg (tpT r), .bool true, .bool true, .bool true, .bool false, .bool false, .agg (tpT r), .agg (tpT r)] (List.append [.bool false, .bool false, .bool true, .bool false, undef, undef, undef, undef, undef, undef, undef, undef, undef, undef, undef, undef, undef, undef, undef, undef, undef, undef, undef, undef, undef, undef, undef, undef, undef, undef, undef, undef, undef, undef, undef, undef, undef, undef, undef, undef] ([undef, undef, undef, undef, undef]))), defers := [] } (by kernel_rfl) ?_
    refine (by assumption : ∀ (a : Act) (w_1 : World), Code.wp _ _ _ a w_1 → _) _ _ ?_
    go_wp2_with fail
    refine (HK.out _).mono ?_
    rintro e wc ⟨rfl, bc⟩
    have V := Lib.hid (cv_var' wc HC.out.size)
    replace HG := Lib.hid (((HG.out.on bc).new cv0 43).putAt (HG.out.on bc).b.size (HG.out.on bc).h.apart C)
    clear bc HK
    go_upto_region 11 with (first | refine cv_store rfl (.tmp 10) (.tmp 56) rfl wc.heap.size cv0 C rfl rfl V.out.at0 rfl HC.out.size HC.out.one ?_)
    clear V
    generalize (wc.alloc _).setRow _ _ = wv at *
    generalize wc.heap.size = gc at *
    replace HS := Lib.hid HG.out.h
    replace HG := Lib.hid HG.out.drew
    replace HS := Lib.hid HG.out.h
    refine sq_go (S := fun w' => Held w' [(gc, C, 43), (g10, tpT r, 25), (g7, tpT r, 25)]) [(true, 0), (true, 1), (false, 2), (true, 3), (true, 4), (true, 5), (true, 6), (true, 7), (true, 8), (true, 9), (true, 10), (true, 11), (true, 12), (true, 13), (true, 15), (false, 14), (true, 16), (true, 17), (true, 18), (true, 19), (true, 20), (true, 21), (true, 24), (false, 22), (false, 23), (true, 25), (true, 26), (true, 27)] (by kernel_rfl) (fun d _ _ _ _ h => by cases d <;> exact h) HS.out ?_
    refine SQ.out ?_
    refine g_ps [(0, .int .i64 id)] (by kernel_rfl) ?_
    refine g_ld (some 59) (ld_pt (.tail _ (.tail _ (.head _))) (by kernel_rfl)) (by kernel_rfl) ?_
    refine g_c (some 60) Tryz.func10 (HP.out _) (by kernel_rfl) ?_
    rintro e v13 ⟨rfl, bw⟩
    replace HG := Lib.hid (HG.out.on bw)
    have HS := Lib.hid (HG.out.h)
    clear bw
    refine ⟨_, rfl, HS.out, ?_⟩
    refine g_ps [(3, .bool true), (4, .pointer (some ⟨g7, 1, none⟩))] (by kernel_rfl) ?_
    refine g_ld (some 63) (ld_s (.tail _ (.tail _ (.head _))) (k := 1) rfl) (by kernel_rfl) ?_
    refine g_ps [(6, .string x)] (by kernel_rfl) ?_
    refine g_take (some 65) (.bool true) (by kernel_rfl) (yields_eqB (wanted_by (g := 3) (b := true) (d := 61) (by kernel_rfl) (by kernel_rfl) (by kernel_rfl) (by kernel_rfl)) (.tmp 63) (.tmp 64) (by kernel_rfl) _ x true (decide_eq_true HX.out) (by kernel_rfl) (by kernel_rfl)) ?_
    refine g_ps [(8, .bool true), (9, .bool true), (10, .pointer (some ⟨g7, 2, none⟩))] (by kernel_rfl) ?_
    refine g_ld (some 69) (ld_s (.tail _ (.tail _ (.head _))) (k := 2) rfl) (by kernel_rfl) ?_
    refine g_ps [(12, .pointer (some ⟨gc, 1, none⟩))] (by kernel_rfl) ?_
    refine g_ld (some 71) (fun w' hw => (HC.out.strs (hw _ (.head _))).2.1) (by kernel_rfl) ?_
    refine g_ps [(15, .bool gr)] (by kernel_rfl) ?_
    refine g_c (some 72) Tryz.func21 (HGr.out _) (by kernel_rfl) ?_
    rintro e v14 ⟨rfl, bw⟩
    replace HG := Lib.hid (HG.out.on bw)
    have HS := Lib.hid (HG.out.h)
    clear bw
    refine ⟨_, rfl, HS.out, ?_⟩
    refine g_take (some 74) (.bool true) (by kernel_rfl) (yields_eqbb (wanted_by (g := 9) (b := true) (d := 67) (by kernel_rfl) (by kernel_rfl) (by kernel_rfl) (by kernel_rfl)) (.tmp 72) (.tmp 73) (by kernel_rfl) gr (by kernel_rfl) (by kernel_rfl)) ?_
    refine g_ps [(17, .bool true), (18, .bool true), (19, .int .i64 id), (20, .int .i64 id)] (by kernel_rfl) ?_
    refine g_ld (some 79) (ld_pt (.tail _ (.tail _ (.head _))) (by kernel_rfl)) (by kernel_rfl) ?_
    refine g_ld (some 82) (ld_pt (.tail _ (.tail _ (.head _))) (by kernel_rfl)) (by kernel_rfl) ?_
    refine g_c (some 80) Tryz.func14 (HN1.out _) (by kernel_rfl) ?_
    rintro e v15 ⟨rfl, bw⟩
    replace HG := Lib.hid (HG.out.on bw)
    have HS := Lib.hid (HG.out.h)
    clear bw
    refine ⟨_, rfl, HS.out, ?_⟩
    refine g_c (some 81) Tryz.func14 (HN2.out _) (by kernel_rfl) ?_
    rintro e v16 ⟨rfl, bw⟩
    replace HG := Lib.hid (HG.out.on bw)
    have HS := Lib.hid (HG.out.h)
    clear bw
    refine ⟨_, rfl, HS.out, ?_⟩
    refine g_take (some 83) (.bool true) (by kernel_rfl) (yields_eqPt (wanted_by (g := 18) (b := true) (d := 76) (by kernel_rfl) (by kernel_rfl) (by kernel_rfl) (by kernel_rfl)) (.tmp 81) (.tmp 82) (by kernel_rfl) r r true (decide_eq_true rfl) (by kernel_rfl) (by kernel_rfl)) ?_
    refine g_ps [(26, .bool true), (27, .bool true)] (by kernel_rfl) ?_
    refine g_done ?_
    refine (by assumption : ∀ (a : Act) (w_1 : World), Code.wp _ Code.ret _ a w_1 → _) _ _ ?_
    refine wp_ret ?_
    exact ret_at (v := .bool true) Tryz.results4 (by kernel_rfl) (by kernel_rfl) ⟨rfl, HG.out.b⟩
end Go.Proofs.YtkmmlfocidfghaaGreat

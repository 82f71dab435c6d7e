import Derived.Test.YtkmmlfocidfghaaGreatZWalk
import Derived.Test.YtkmmlfocidfghaaGreatZDrawP
import Derived.Test.YtkmmlfocidfghaaGreatZPoint
import Derived.Test.YtkmmlfocidfghaaGreatUInvs
import Derived.Test.YtkmmlfocidfghaaGreatZLaw
namespace Go.Proofs.YtkmmlfocidfghaaGreat
open Go.RowKit
theorem Stand.sub {w w' : World} {L L' : List (Nat × Array Value × TypeId)} (h : Stand w w' L) (hs : ∀ q ∈ L', q ∈ L) : Stand w w' L' := ⟨fun q hq => h.h q (hs q hq), h.b⟩
def list3 (p q r : Tp) : Array Value := #[.bool p.1, .string p.2.1, .string p.2.2, .bool q.1, .string q.2.1, .string q.2.2, .bool r.1, .string r.2.1, .string r.2.2]
theorem list3_is (p q r : Tp) : ListC (list3 p q r) p q r := ⟨rfl, rfl, rfl, rfl, rfl, rfl, rfl, rfl, rfl⟩
theorem g_slice3 {ops : Array Oper} {Q : Exit → Act → World → Prop} {S : World → Prop} {K : Act → World → Prop} {i : Nat} {r : List (Bool × Nat)} {a : Act} {w : World} (d : Option Tmp) (p q s : Tp) (x y z : Operand) (hd : (oAt ops i).dst = d) (hi : Nat.blt i ops.size = true) (hw : Region.wanted (oAt ops i) (yielded ops a.tmps) = true) (ho : (oAt ops i).op = .buildSlice 34 3 #[(0, x), (1, y), (2, z)]) (hx : a.eval x = .agg (tpT p)) (hy : a.eval y = .agg (tpT q)) (hz : a.eval z = .agg (tpT s)) (hS : S (w.alloc (.cells (list3 p q s) 25)))
    (k : SQ Tryz.prog ops Q S K r (a.put d (.slice (some ⟨w.heap.size, 0, none⟩) 3 3)) (w.alloc (.cells (list3 p q s) 25))) : SQ Tryz.prog ops Q S K ((false, i) :: r) a w := by
  refine ⟨sq_op hi hw ?_⟩
  have e : (execOp a.eval (oAt ops i)).run Tryz.prog w = .ok (.value (.slice (some ⟨w.heap.size, 0, none⟩) 3 3)) (w.alloc (.cells (list3 p q s) 25)) := by
    unfold tpT at hx hy hz
    unfold execOp list3
    rw [ho]
    simp only [hx, hy, hz, List.map_toArray, List.map_cons, List.map_nil]
    go_simp
  unfold Oper.wp
  rw [e, Oper.upon_value, hd]
  exact ⟨hS, k.out⟩
set_option maxRecDepth 8000 in
set_option maxHeartbeats 8000000 in
theorem points_walk (a0 : Option Addr) (len0 cap0 : Nat) (z0 : List Int) (w : World) (w0 : IsRow .u8 w a0 len0 cap0 z0) :
    Calls Tryz.prog 3 #[.slice a0 len0 cap0] w (Yes w) := by
  have hlen : len0 ≤ maxLen := by rcases w0 with ⟨_, rfl, _⟩ | ⟨_, _, h1, h2, _⟩ <;> unfold maxLen at * <;> omega
  have HBig := Lib.hid (big_g a0 len0 cap0 w hlen)
  by_cases h1 : 1048576 < len0
  · have hd : decide ((1048576 : Int) < (len0 : Int)) = true := by simp; omega
    clear w0 hlen
    go_enter Tryz.func3, Tryz.ntmps3
    go_wp2_with fail
    refine HBig.out.mono ?_
    rintro e w' ⟨rfl, rfl⟩
    go_wp2
    go_ret
    exact ⟨rfl, Below.refl _ _⟩
  have hd : decide ((1048576 : Int) < (len0 : Int)) = false := by simp; omega
  have hdr := w0.draw (by omega)
  have HD := Lib.hid (drawAdd_c a0 len0 cap0 w hdr)
  have HG := Lib.hid (Stand.mk (Held.none w) (Below.refl w.heap.size w))
  clear w0 hlen h1 hdr
  go_enter Tryz.func3, Tryz.ntmps3
  go_wp2_with fail
  refine HBig.out.mono ?_
  rintro e w' ⟨rfl, rfl⟩
  go_upto_region 3 with (fail)
  have HS := Lib.hid HG.out.h
  refine wp_region_line (S := fun w' => Held w' []) [(true, 0), (false, 1), (true, 2), (true, 3), (true, 4), (true, 5), (false, 6), (false, 7), (true, 8), (false, 9), (false, 10)] (by kernel_rfl) (by kernel_rfl) HS.out ?_
  refine sq_ps [(0, .slice a0 len0 cap0)] (by kernel_rfl) ?_
  refine sq_c (some 13) Tryz.func7 (HD.out) (by kernel_rfl) ?_
  rintro e v1 ⟨id, a, b, rfl, bw⟩
  replace HG := Lib.hid (HG.out.on bw)
  have HS := Lib.hid (HG.out.h)
  clear bw
  refine ⟨_, rfl, HS.out, ?_⟩
  refine sq_ps [(2, .tuple #[.int .i64 id, .agg (tpT a), .agg (tpT b)]), (3, .int .i64 id), (4, .agg (tpT a)), (5, .agg (tpT b))] (by kernel_rfl) ?_
  have GEg2 := Lib.hid HG.out.b.size
  have APg2 := Lib.hid HG.out.h.apart
  replace HG := Lib.hid (HG.out.new (tpT noT) 25)
  have HS := Lib.hid (HG.out.h.tail)
  refine sq_alloc (some 4) 25 (tpT noT) (by kernel_rfl) (by kernel_rfl) (by kernel_rfl) (by kernel_rfl) (zero_pt _) HS.out ?_
  generalize v1.alloc _ = u2 at *
  generalize v1.heap.size = g2 at *
  have GEg3 := Lib.hid HG.out.b.size
  have APg3 := Lib.hid HG.out.h.apart
  replace HG := Lib.hid (HG.out.new (tpT noT) 25)
  have HS := Lib.hid (HG.out.h.tail.tail)
  refine sq_alloc (some 5) 25 (tpT noT) (by kernel_rfl) (by kernel_rfl) (by kernel_rfl) (by kernel_rfl) (zero_pt _) HS.out ?_
  generalize u2.alloc _ = u3 at *
  generalize u2.heap.size = g3 at *
  refine sq_ps [(8, .int .i64 id)] (by kernel_rfl) ?_
  replace HG := Lib.hid (HG.out.sub (L' := [(g2, tpT noT, 25), (g3, tpT noT, 25)]) (fun q hq => mem_front 1 hq))
  have HN := Lib.hid (HG.out.h _ (.head _))
  replace HG := Lib.hid (HG.out.putAt GEg2.out (fun q hq => by simp only [List.mem_cons, List.not_mem_nil, or_false] at hq; rcases hq with rfl; exact (APg3.out (g2, tpT noT, 25) (.head _)).symm) (tpT a))
  have HS := Lib.hid (HG.out.h.tail.tail)
  refine sq_st 25 g2 (tpT a) HN.out Tryz.infoPoint rfl (by kernel_rfl) HS.out (by kernel_rfl) ?_
  clear HN
  generalize World.setRow _ g2 _ = t4 at *
  replace HG := Lib.hid (HG.out.sub (L' := [(g3, tpT noT, 25), (g2, tpT a, 25)]) (fun q hq => mem_front 1 hq))
  have HN := Lib.hid (HG.out.h _ (.head _))
  replace HG := Lib.hid (HG.out.putAt GEg3.out (fun q hq => by simp only [List.mem_cons, List.not_mem_nil, or_false] at hq; rcases hq with rfl; exact APg3.out (g2, tpT noT, 25) (.head _)) (tpT b))
  have HS := Lib.hid (HG.out.h.tail.tail)
  refine sq_st 25 g3 (tpT b) HN.out Tryz.infoPoint rfl (by kernel_rfl) HS.out (by kernel_rfl) ?_
  clear HN
  generalize World.setRow _ g3 _ = t5 at *
  refine sq_fin { tmps := List.toArray (List.append [.slice a0 len0 cap0, undef, .bool false, .int .i64 id, .pointer (some ⟨g2, 0, none⟩), .pointer (some ⟨g3, 0, none⟩), undef, undef, undef, .slice a0 len0 cap0, .bool false, .tuple #[.int .i64 id, .agg (tpT a), .agg (tpT b)], .slice a0 len0 cap0, .tuple #[.int .i64 id, .agg (tpT a), .agg (tpT b)], .int .i64 id, .agg (tpT a), .agg (tpT b), undef, undef, undef, undef, undef, undef, undef, undef, undef, undef, undef, undef, undef, undef, undef, undef, undef, undef, undef, undef, undef, undef, undef] (List.append [undef, undef, undef, undef, undef, undef, undef, undef, undef, undef, undef, undef, undef, undef, undef, undef, undef, undef, undef, undef, undef, undef, undef, undef, undef, undef, undef, undef, undef, undef, undef, undef, undef, undef, undef, undef, undef, undef, undef, undef] (List.append [undef, undef, undef, undef, undef, undef, undef, undef, undef, undef, undef, undef, undef, undef, undef, undef, undef, undef, undef, undef, undef, undef, undef, undef, undef, undef, undef, undef, undef, undef, undef, undef, undef, undef, undef, undef, undef, undef, undef, undef] ([undef])))), defers := [] } (by kernel_rfl) ?_
  refine (by assumption : ∀ (a : Act) (w_1 : World), Code.wp _ _ _ a w_1 → _) _ _ ?_
  clear HBig HD
  have HA := Lib.hid (pointOk_any id a)
  have HB := Lib.hid (pointOk_any id b)
  cases ha : pointB id a with
  | false =>
    have HN := Lib.hid (addPoint_i id a b)
    rw [addPtG_no (by rw [ha]; rfl)] at HN
    have HI := Lib.hid (pointOk_i id a)
    rw [ha] at HA HI
    clear ha HB
    go_upto_region 4 with (fail)
    replace HS := Lib.hid HG.out.h
    refine wp_region_line (S := fun w' => Held w' [(g3, tpT b, 25), (g2, tpT a, 25)]) [(true, 0), (true, 1), (false, 2), (true, 3), (true, 4), (true, 5), (true, 6), (true, 7), (true, 8), (true, 9)] (by kernel_rfl) (by kernel_rfl) HS.out ?_
    refine SQ.out ?_
    refine g_ps [(0, .int .i64 id)] (by kernel_rfl) ?_
    refine g_ld (some 18) (ld_pt (.tail _ (.head _)) (by kernel_rfl)) (by kernel_rfl) ?_
    refine g_c (some 19) Tryz.func8 (HA.out _) (by kernel_rfl) ?_
    rintro e v6 ⟨rfl, bw⟩
    replace HG := Lib.hid (HG.out.on bw)
    have HS := Lib.hid (HG.out.h)
    clear bw
    refine ⟨_, rfl, HS.out, ?_⟩
    refine g_ps [(3, .bool true), (4, .bool true)] (by kernel_rfl) ?_
    refine g_no [5, 6, 7, 8] (by kernel_rfl) ?_
    refine g_ps [(9, .bool true)] (by kernel_rfl) ?_
    refine g_norm { tmps := List.toArray (List.append [.slice a0 len0 cap0, undef, .bool false, .int .i64 id, .pointer (some ⟨g2, 0, none⟩), .pointer (some ⟨g3, 0, none⟩), undef, undef, undef, .slice a0 len0 cap0, .bool false, .tuple #[.int .i64 id, .agg (tpT a), .agg (tpT b)], .slice a0 len0 cap0, .tuple #[.int .i64 id, .agg (tpT a), .agg (tpT b)], .int .i64 id, .agg (tpT a), .agg (tpT b), .int .i64 id, .agg (tpT a), .bool false, .bool true, .bool true, undef, undef, undef, undef, .bool true, undef, undef, undef, undef, undef, undef, undef, undef, undef, undef, undef, undef, undef] (List.append [undef, undef, undef, undef, undef, undef, undef, undef, undef, undef, undef, undef, undef, undef, undef, undef, undef, undef, undef, undef, undef, undef, undef, undef, undef, undef, undef, undef, undef, undef, undef, undef, undef, undef, undef, undef, undef, undef, undef, undef] (List.append [undef, undef, undef, undef, undef, undef, undef, undef, undef, undef, undef, undef, undef, undef, undef, undef, undef, undef, undef, undef, undef, undef, undef, undef, undef, undef, undef, undef, undef, undef, undef, undef, undef, undef, undef, undef, undef, undef, undef, undef] ([undef])))), defers := [] } (by kernel_rfl) ?_
    refine g_done ?_
    refine (by assumption : ∀ (a : Act) (w_1 : World), Code.wp _ _ _ a w_1 → _) _ _ ?_
    go_upto_region 5 with (fail)
    replace HS := Lib.hid HG.out.h
    replace HG := Lib.hid HG.out.drew
    replace HS := Lib.hid HG.out.h
    refine sq_go (S := fun w' => Held w' [(g3, tpT b, 25), (g2, tpT a, 25)]) [(true, 0), (true, 1), (true, 2), (true, 4), (false, 3), (true, 5), (true, 6), (true, 7), (true, 8), (true, 10), (true, 11), (false, 9), (false, 12), (true, 13), (true, 14), (true, 15), (false, 16), (false, 17), (true, 18), (true, 19), (true, 20), (true, 21)] (by kernel_rfl) (fun d _ _ _ _ h => by cases d <;> exact h) HS.out ?_
    refine SQ.out ?_
    refine g_ps [(0, .int .i64 id)] (by kernel_rfl) ?_
    refine g_ld (some 28) (ld_pt (.tail _ (.head _)) (by kernel_rfl)) (by kernel_rfl) ?_
    refine g_ld (some 29) (ld_pt (.head _) (by kernel_rfl)) (by kernel_rfl) ?_
    refine g_pure (some 31) (.agg (tpT noT)) (by kernel_rfl) (by kernel_rfl) (held_build 25 #[] (by kernel_rfl) _ (by kernel_rfl) _ built_pt0) ?_
    refine g_c (some 30) Tryz.func9 (HN.out _) (by kernel_rfl) ?_
    rintro e v7 ⟨rfl, bw⟩
    replace HG := Lib.hid (HG.out.on bw)
    have HS := Lib.hid (HG.out.h)
    clear bw
    refine ⟨_, rfl, HS.out, ?_⟩
    refine g_take (some 32) (.bool true) (by kernel_rfl) (yields_eqPt (by kernel_rfl) (.tmp 30) (.tmp 31) (by kernel_rfl) noT noT true (decide_eq_true (rfl)) (by kernel_rfl) (by kernel_rfl)) ?_
    refine g_ps [(6, .bool true), (7, .int .i64 id)] (by kernel_rfl) ?_
    refine g_ld (some 35) (ld_pt (.tail _ (.head _)) (by kernel_rfl)) (by kernel_rfl) ?_
    refine g_ps [(10, .int .i64 id)] (by kernel_rfl) ?_
    refine g_ld (some 38) (ld_pt (.tail _ (.head _)) (by kernel_rfl)) (by kernel_rfl) ?_
    refine g_c (some 36) Tryz.func10 (HI.out _) (by kernel_rfl) ?_
    rintro e v8 ⟨rfl, bw⟩
    replace HG := Lib.hid (HG.out.on bw)
    have HS := Lib.hid (HG.out.h)
    clear bw
    refine ⟨_, rfl, HS.out, ?_⟩
    refine g_c (some 39) Tryz.func8 (HA.out _) (by kernel_rfl) ?_
    rintro e v9 ⟨rfl, bw⟩
    replace HG := Lib.hid (HG.out.on bw)
    have HS := Lib.hid (HG.out.h)
    clear bw
    refine ⟨_, rfl, HS.out, ?_⟩
    refine g_take (some 40) (.bool true) (by kernel_rfl) (yields_eqbb (wanted_by (g := 6) (b := true) (d := 33) (by kernel_rfl) (by kernel_rfl) (by kernel_rfl) (by kernel_rfl)) (.tmp 36) (.tmp 39) (by kernel_rfl) false (by kernel_rfl) (by kernel_rfl)) ?_
    refine g_ps [(14, .bool true), (15, .bool true)] (by kernel_rfl) ?_
    refine g_c (some 43) Tryz.func11 (baseOf_i 1 _) (by kernel_rfl) ?_
    rintro e v10 ⟨rfl, bw⟩
    replace HG := Lib.hid (HG.out.on bw)
    have HS := Lib.hid (HG.out.h)
    clear bw
    refine ⟨_, rfl, HS.out, ?_⟩
    refine g_c (some 44) Tryz.func12 (one_b _) (by kernel_rfl) ?_
    rintro e v11 ⟨rfl, bw⟩
    replace HG := Lib.hid (HG.out.on bw)
    have HS := Lib.hid (HG.out.h)
    clear bw
    refine ⟨_, rfl, HS.out, ?_⟩
    refine g_pure (some 45) (.agg (tpT (false, ⟨#[1]⟩, ⟨#[2]⟩))) (by kernel_rfl) (wanted_by (g := 15) (b := true) (d := 42) (by kernel_rfl) (by kernel_rfl) (by kernel_rfl) (by kernel_rfl)) (held_build 25 #[(1, (.tmp 44)), (2, (.const (.string ⟨#[2]⟩)))] (by kernel_rfl) _ (by kernel_rfl) _ (built_point _ _)) ?_
    refine g_take (some 46) (.bool true) (by kernel_rfl) (yields_eqPt (wanted_by (g := 15) (b := true) (d := 42) (by kernel_rfl) (by kernel_rfl) (by kernel_rfl) (by kernel_rfl)) (.tmp 43) (.tmp 45) (by kernel_rfl) (baseT 1) (false, ⟨#[1]⟩, ⟨#[2]⟩) true (decide_eq_true (base_one)) (by kernel_rfl) (by kernel_rfl)) ?_
    refine g_ps [(20, .bool true), (21, .bool true)] (by kernel_rfl) ?_
    refine g_done ?_
    refine (by assumption : ∀ (a : Act) (w_1 : World), Code.wp _ Code.ret _ a w_1 → _) _ _ ?_
    refine wp_ret ?_
    try refine then_ret ?_
    exact ret_at (v := .bool true) Tryz.results3 (by kernel_rfl) (by kernel_rfl) ⟨rfl, HG.out.b⟩
  | true =>
  cases hb : pointB id b with
  | false =>
    have HN := Lib.hid (addPoint_i id a b)
    rw [addPtG_no (by rw [ha, hb]; rfl)] at HN
    have HI := Lib.hid (pointOk_i id a)
    rw [ha] at HA HI
    rw [hb] at HB
    clear ha hb
    go_upto_region 4 with (fail)
    replace HS := Lib.hid HG.out.h
    refine wp_region_line (S := fun w' => Held w' [(g3, tpT b, 25), (g2, tpT a, 25)]) [(true, 0), (true, 1), (false, 2), (true, 3), (true, 4), (true, 5), (true, 6), (false, 7), (true, 8), (true, 9)] (by kernel_rfl) (by kernel_rfl) HS.out ?_
    refine SQ.out ?_
    refine g_ps [(0, .int .i64 id)] (by kernel_rfl) ?_
    refine g_ld (some 18) (ld_pt (.tail _ (.head _)) (by kernel_rfl)) (by kernel_rfl) ?_
    refine g_c (some 19) Tryz.func8 (HA.out _) (by kernel_rfl) ?_
    rintro e v6 ⟨rfl, bw⟩
    replace HG := Lib.hid (HG.out.on bw)
    have HS := Lib.hid (HG.out.h)
    clear bw
    refine ⟨_, rfl, HS.out, ?_⟩
    refine g_ps [(3, .bool false), (4, .bool false), (5, .int .i64 id)] (by kernel_rfl) ?_
    refine g_ld (some 23) (ld_pt (.head _) (by kernel_rfl)) (by kernel_rfl) ?_
    refine g_c (some 24) Tryz.func8 (HB.out _) (by kernel_rfl) ?_
    rintro e v7 ⟨rfl, bw⟩
    replace HG := Lib.hid (HG.out.on bw)
    have HS := Lib.hid (HG.out.h)
    clear bw
    refine ⟨_, rfl, HS.out, ?_⟩
    refine g_ps [(8, .bool true), (9, .bool true)] (by kernel_rfl) ?_
    refine g_norm { tmps := List.toArray (List.append [.slice a0 len0 cap0, undef, .bool false, .int .i64 id, .pointer (some ⟨g2, 0, none⟩), .pointer (some ⟨g3, 0, none⟩), undef, undef, undef, .slice a0 len0 cap0, .bool false, .tuple #[.int .i64 id, .agg (tpT a), .agg (tpT b)], .slice a0 len0 cap0, .tuple #[.int .i64 id, .agg (tpT a), .agg (tpT b)], .int .i64 id, .agg (tpT a), .agg (tpT b), .int .i64 id, .agg (tpT a), .bool true, .bool false, .bool false, .int .i64 id, .agg (tpT b), .bool false, .bool true, .bool true, undef, undef, undef, undef, undef, undef, undef, undef, undef, undef, undef, undef, undef] (List.append [undef, undef, undef, undef, undef, undef, undef, undef, undef, undef, undef, undef, undef, undef, undef, undef, undef, undef, undef, undef, undef, undef, undef, undef, undef, undef, undef, undef, undef, undef, undef, undef, undef, undef, undef, undef, undef, undef, undef, undef] (List.append [undef, undef, undef, undef, undef, undef, undef, undef, undef, undef, undef, undef, undef, undef, undef, undef, undef, undef, undef, undef, undef, undef, undef, undef, undef, undef, undef, undef, undef, undef, undef, undef, undef, undef, undef, undef, undef, undef, undef, undef] ([undef])))), defers := [] } (by kernel_rfl) ?_
    refine g_done ?_
    refine (by assumption : ∀ (a : Act) (w_1 : World), Code.wp _ _ _ a w_1 → _) _ _ ?_
    go_upto_region 5 with (fail)
    replace HS := Lib.hid HG.out.h
    replace HG := Lib.hid HG.out.drew
    replace HS := Lib.hid HG.out.h
    refine sq_go (S := fun w' => Held w' [(g3, tpT b, 25), (g2, tpT a, 25)]) [(true, 0), (true, 1), (true, 2), (true, 4), (false, 3), (true, 5), (true, 6), (true, 7), (true, 8), (true, 10), (true, 11), (false, 9), (false, 12), (true, 13), (true, 14), (true, 15), (false, 16), (false, 17), (true, 18), (true, 19), (true, 20), (true, 21)] (by kernel_rfl) (fun d _ _ _ _ h => by cases d <;> exact h) HS.out ?_
    refine SQ.out ?_
    refine g_ps [(0, .int .i64 id)] (by kernel_rfl) ?_
    refine g_ld (some 28) (ld_pt (.tail _ (.head _)) (by kernel_rfl)) (by kernel_rfl) ?_
    refine g_ld (some 29) (ld_pt (.head _) (by kernel_rfl)) (by kernel_rfl) ?_
    refine g_pure (some 31) (.agg (tpT noT)) (by kernel_rfl) (by kernel_rfl) (held_build 25 #[] (by kernel_rfl) _ (by kernel_rfl) _ built_pt0) ?_
    refine g_c (some 30) Tryz.func9 (HN.out _) (by kernel_rfl) ?_
    rintro e v8 ⟨rfl, bw⟩
    replace HG := Lib.hid (HG.out.on bw)
    have HS := Lib.hid (HG.out.h)
    clear bw
    refine ⟨_, rfl, HS.out, ?_⟩
    refine g_take (some 32) (.bool true) (by kernel_rfl) (yields_eqPt (by kernel_rfl) (.tmp 30) (.tmp 31) (by kernel_rfl) noT noT true (decide_eq_true (rfl)) (by kernel_rfl) (by kernel_rfl)) ?_
    refine g_ps [(6, .bool true), (7, .int .i64 id)] (by kernel_rfl) ?_
    refine g_ld (some 35) (ld_pt (.tail _ (.head _)) (by kernel_rfl)) (by kernel_rfl) ?_
    refine g_ps [(10, .int .i64 id)] (by kernel_rfl) ?_
    refine g_ld (some 38) (ld_pt (.tail _ (.head _)) (by kernel_rfl)) (by kernel_rfl) ?_
    refine g_c (some 36) Tryz.func10 (HI.out _) (by kernel_rfl) ?_
    rintro e v9 ⟨rfl, bw⟩
    replace HG := Lib.hid (HG.out.on bw)
    have HS := Lib.hid (HG.out.h)
    clear bw
    refine ⟨_, rfl, HS.out, ?_⟩
    refine g_c (some 39) Tryz.func8 (HA.out _) (by kernel_rfl) ?_
    rintro e v10 ⟨rfl, bw⟩
    replace HG := Lib.hid (HG.out.on bw)
    have HS := Lib.hid (HG.out.h)
    clear bw
    refine ⟨_, rfl, HS.out, ?_⟩
    refine g_take (some 40) (.bool true) (by kernel_rfl) (yields_eqbb (wanted_by (g := 6) (b := true) (d := 33) (by kernel_rfl) (by kernel_rfl) (by kernel_rfl) (by kernel_rfl)) (.tmp 36) (.tmp 39) (by kernel_rfl) true (by kernel_rfl) (by kernel_rfl)) ?_
    refine g_ps [(14, .bool true), (15, .bool true)] (by kernel_rfl) ?_
    refine g_c (some 43) Tryz.func11 (baseOf_i 1 _) (by kernel_rfl) ?_
    rintro e v11 ⟨rfl, bw⟩
    replace HG := Lib.hid (HG.out.on bw)
    have HS := Lib.hid (HG.out.h)
    clear bw
    refine ⟨_, rfl, HS.out, ?_⟩
    refine g_c (some 44) Tryz.func12 (one_b _) (by kernel_rfl) ?_
    rintro e v12 ⟨rfl, bw⟩
    replace HG := Lib.hid (HG.out.on bw)
    have HS := Lib.hid (HG.out.h)
    clear bw
    refine ⟨_, rfl, HS.out, ?_⟩
    refine g_pure (some 45) (.agg (tpT (false, ⟨#[1]⟩, ⟨#[2]⟩))) (by kernel_rfl) (wanted_by (g := 15) (b := true) (d := 42) (by kernel_rfl) (by kernel_rfl) (by kernel_rfl) (by kernel_rfl)) (held_build 25 #[(1, (.tmp 44)), (2, (.const (.string ⟨#[2]⟩)))] (by kernel_rfl) _ (by kernel_rfl) _ (built_point _ _)) ?_
    refine g_take (some 46) (.bool true) (by kernel_rfl) (yields_eqPt (wanted_by (g := 15) (b := true) (d := 42) (by kernel_rfl) (by kernel_rfl) (by kernel_rfl) (by kernel_rfl)) (.tmp 43) (.tmp 45) (by kernel_rfl) (baseT 1) (false, ⟨#[1]⟩, ⟨#[2]⟩) true (decide_eq_true (base_one)) (by kernel_rfl) (by kernel_rfl)) ?_
    refine g_ps [(20, .bool true), (21, .bool true)] (by kernel_rfl) ?_
    refine g_done ?_
    refine (by assumption : ∀ (a : Act) (w_1 : World), Code.wp _ Code.ret _ a w_1 → _) _ _ ?_
    refine wp_ret ?_
    try refine then_ret ?_
    exact ret_at (v := .bool true) Tryz.results3 (by kernel_rfl) (by kernel_rfl) ⟨rfl, HG.out.b⟩
  | true =>
  rw [ha] at HA
  rw [hb] at HB
  have hc := (point_fit ha).cv
  have PL := point_laws hc
  have oc : pointB id (baseT id) = true := base_ok hc
  have os := (PL.sum ha hb).1
  have HBa := Lib.hid (baseOf_all id)
  have HAdd := Lib.hid (addPoint_i id a b)
  have HNeg := Lib.hid (negPoint_i id a)
  have HSo := Lib.hid (pointOk_any id (addPtG id a b))
  rw [os] at HSo
  have HCm := Lib.hid (addPoint_i id b a)
  rw [← PL.comm ha hb] at HCm
  have HSc := Lib.hid (addPoint_i id (addPtG id a b) (baseT id))
  have HBc := Lib.hid (addPoint_i id b (baseT id))
  have HAs := Lib.hid (addPoint_i id a (addPtG id b (baseT id)))
  rw [← PL.assoc ha hb oc] at HAs
  have HAn := Lib.hid (addPoint_i id a (negPtG id a))
  rw [PL.against ha] at HAn
  have HBk := Lib.hid (addPoint_i id (addPtG id a b) (negPtG id a))
  rw [PL.back ha hb] at HBk
  have HSm := Lib.hid (fun gl w hl => sumThree_i id a b (negPtG id a) gl 3 (list3 a b (negPtG id a)) w hl (list3_is _ _ _))
  rw [(PL.none ha).2, PL.back ha hb] at HSm
  have HSa := Lib.hid (samePoint_i (addPtG id a b) (addPtG id a b))
  rw [decide_eq_true rfl] at HSa
  have HNo := Lib.hid (addPoint_i id a zeroT)
  rw [(PL.none ha).1] at HNo
  clear ha hb hc PL oc os
  generalize addPtG id (addPtG id a b) (baseT id) = sc at *
  generalize addPtG id b (baseT id) = bc at *
  generalize addPtG id a b = s at *
  generalize negPtG id a = n at *
  generalize baseT id = c at *
  go_upto_region 4 with (fail)
  replace HS := Lib.hid HG.out.h
  refine wp_region_line (S := fun w' => Held w' [(g3, tpT b, 25), (g2, tpT a, 25)]) [(true, 0), (true, 1), (false, 2), (true, 3), (true, 4), (true, 5), (true, 6), (false, 7), (true, 8), (true, 9)] (by kernel_rfl) (by kernel_rfl) HS.out ?_
  refine SQ.out ?_
  refine g_ps [(0, .int .i64 id)] (by kernel_rfl) ?_
  refine g_ld (some 18) (ld_pt (.tail _ (.head _)) (by kernel_rfl)) (by kernel_rfl) ?_
  refine g_c (some 19) Tryz.func8 (HA.out _) (by kernel_rfl) ?_
  rintro e v6 ⟨rfl, bw⟩
  replace HG := Lib.hid (HG.out.on bw)
  have HS := Lib.hid (HG.out.h)
  clear bw
  refine ⟨_, rfl, HS.out, ?_⟩
  refine g_ps [(3, .bool false), (4, .bool false), (5, .int .i64 id)] (by kernel_rfl) ?_
  refine g_ld (some 23) (ld_pt (.head _) (by kernel_rfl)) (by kernel_rfl) ?_
  refine g_c (some 24) Tryz.func8 (HB.out _) (by kernel_rfl) ?_
  rintro e v7 ⟨rfl, bw⟩
  replace HG := Lib.hid (HG.out.on bw)
  have HS := Lib.hid (HG.out.h)
  clear bw
  refine ⟨_, rfl, HS.out, ?_⟩
  refine g_ps [(8, .bool false), (9, .bool false)] (by kernel_rfl) ?_
  refine g_norm { tmps := List.toArray (List.append [.slice a0 len0 cap0, undef, .bool false, .int .i64 id, .pointer (some ⟨g2, 0, none⟩), .pointer (some ⟨g3, 0, none⟩), undef, undef, undef, .slice a0 len0 cap0, .bool false, .tuple #[.int .i64 id, .agg (tpT a), .agg (tpT b)], .slice a0 len0 cap0, .tuple #[.int .i64 id, .agg (tpT a), .agg (tpT b)], .int .i64 id, .agg (tpT a), .agg (tpT b), .int .i64 id, .agg (tpT a), .bool true, .bool false, .bool false, .int .i64 id, .agg (tpT b), .bool true, .bool false, .bool false, undef, undef, undef, undef, undef, undef, undef, undef, undef, undef, undef, undef, undef] (List.append [undef, undef, undef, undef, undef, undef, undef, undef, undef, undef, undef, undef, undef, undef, undef, undef, undef, undef, undef, undef, undef, undef, undef, undef, undef, undef, undef, undef, undef, undef, undef, undef, undef, undef, undef, undef, undef, undef, undef, undef] (List.append [undef, undef, undef, undef, undef, undef, undef, undef, undef, undef, undef, undef, undef, undef, undef, undef, undef, undef, undef, undef, undef, undef, undef, undef, undef, undef, undef, undef, undef, undef, undef, undef, undef, undef, undef, undef, undef, undef, undef, undef] ([undef])))), defers := [] } (by kernel_rfl) ?_
  refine g_done ?_
  refine (by assumption : ∀ (a : Act) (w_1 : World), Code.wp _ _ _ a w_1 → _) _ _ ?_
  go_upto_region 6 with (fail)
  replace HS := Lib.hid HG.out.h
  refine wp_region_line (S := fun w' => Held w' [(g3, tpT b, 25), (g2, tpT a, 25)]) [(true, 0), (false, 1), (false, 2), (false, 3)] (by kernel_rfl) (by kernel_rfl) HS.out ?_
  refine sq_ps [(0, .int .i64 id)] (by kernel_rfl) ?_
  refine sq_c (some 49) Tryz.func13 (HBa.out _) (by kernel_rfl) ?_
  rintro e v8 ⟨rfl, bw⟩
  replace HG := Lib.hid (HG.out.on bw)
  have HS := Lib.hid (HG.out.h)
  clear bw
  refine ⟨_, rfl, HS.out, ?_⟩
  have GEg9 := Lib.hid HG.out.b.size
  have APg9 := Lib.hid HG.out.h.apart
  replace HG := Lib.hid (HG.out.new (tpT noT) 25)
  have HS := Lib.hid (HG.out.h.tail)
  refine sq_alloc (some 6) 25 (tpT noT) (by kernel_rfl) (by kernel_rfl) (by kernel_rfl) (by kernel_rfl) (zero_pt _) HS.out ?_
  generalize v8.alloc _ = u9 at *
  generalize v8.heap.size = g9 at *
  have HN := Lib.hid (HG.out.h _ (.head _))
  replace HG := Lib.hid (HG.out.putAt GEg9.out APg9.out (tpT c))
  have HS := Lib.hid (HG.out.h.tail)
  refine sq_st 25 g9 (tpT c) HN.out Tryz.infoPoint rfl (by kernel_rfl) HS.out (by kernel_rfl) ?_
  clear HN
  generalize World.setRow _ g9 _ = t10 at *
  refine sq_fin { tmps := List.toArray (List.append [.slice a0 len0 cap0, undef, .bool false, .int .i64 id, .pointer (some ⟨g2, 0, none⟩), .pointer (some ⟨g3, 0, none⟩), .pointer (some ⟨g9, 0, none⟩), undef, undef, .slice a0 len0 cap0, .bool false, .tuple #[.int .i64 id, .agg (tpT a), .agg (tpT b)], .slice a0 len0 cap0, .tuple #[.int .i64 id, .agg (tpT a), .agg (tpT b)], .int .i64 id, .agg (tpT a), .agg (tpT b), .int .i64 id, .agg (tpT a), .bool true, .bool false, .bool false, .int .i64 id, .agg (tpT b), .bool true, .bool false, .bool false, undef, undef, undef, undef, undef, undef, undef, undef, undef, undef, undef, undef, undef] (List.append [undef, undef, undef, undef, undef, undef, undef, undef, .int .i64 id, .agg (tpT c), undef, undef, undef, undef, undef, undef, undef, undef, undef, undef, undef, undef, undef, undef, undef, undef, undef, undef, undef, undef, undef, undef, undef, undef, undef, undef, undef, undef, undef, undef] (List.append [undef, undef, undef, undef, undef, undef, undef, undef, undef, undef, undef, undef, undef, undef, undef, undef, undef, undef, undef, undef, undef, undef, undef, undef, undef, undef, undef, undef, undef, undef, undef, undef, undef, undef, undef, undef, undef, undef, undef, undef] ([undef])))), defers := [] } (by kernel_rfl) ?_
  refine (by assumption : ∀ (a : Act) (w_1 : World), Code.wp _ _ _ a w_1 → _) _ _ ?_
  go_upto_region 7 with (fail)
  replace HS := Lib.hid HG.out.h
  refine wp_region_line (S := fun w' => Held w' [(g9, tpT c, 25), (g3, tpT b, 25), (g2, tpT a, 25)]) [(true, 0), (true, 1), (true, 2), (false, 3), (false, 4), (false, 5)] (by kernel_rfl) (by kernel_rfl) HS.out ?_
  refine sq_ps [(0, .int .i64 id)] (by kernel_rfl) ?_
  refine sq_ld (some 51) (ld_pt (.tail _ (.tail _ (.head _))) (by kernel_rfl)) (by kernel_rfl) ?_
  refine sq_ld (some 52) (ld_pt (.tail _ (.head _)) (by kernel_rfl)) (by kernel_rfl) ?_
  refine sq_c (some 53) Tryz.func9 (HAdd.out _) (by kernel_rfl) ?_
  rintro e v11 ⟨rfl, bw⟩
  replace HG := Lib.hid (HG.out.on bw)
  have HS := Lib.hid (HG.out.h)
  clear bw
  refine ⟨_, rfl, HS.out, ?_⟩
  have GEg12 := Lib.hid HG.out.b.size
  have APg12 := Lib.hid HG.out.h.apart
  replace HG := Lib.hid (HG.out.new (tpT noT) 25)
  have HS := Lib.hid (HG.out.h.tail)
  refine sq_alloc (some 7) 25 (tpT noT) (by kernel_rfl) (by kernel_rfl) (by kernel_rfl) (by kernel_rfl) (zero_pt _) HS.out ?_
  generalize v11.alloc _ = u12 at *
  generalize v11.heap.size = g12 at *
  have HN := Lib.hid (HG.out.h _ (.head _))
  replace HG := Lib.hid (HG.out.putAt GEg12.out APg12.out (tpT s))
  have HS := Lib.hid (HG.out.h.tail)
  refine sq_st 25 g12 (tpT s) HN.out Tryz.infoPoint rfl (by kernel_rfl) HS.out (by kernel_rfl) ?_
  clear HN
  generalize World.setRow _ g12 _ = t13 at *
  refine sq_fin { tmps := List.toArray (List.append [.slice a0 len0 cap0, undef, .bool false, .int .i64 id, .pointer (some ⟨g2, 0, none⟩), .pointer (some ⟨g3, 0, none⟩), .pointer (some ⟨g9, 0, none⟩), .pointer (some ⟨g12, 0, none⟩), undef, .slice a0 len0 cap0, .bool false, .tuple #[.int .i64 id, .agg (tpT a), .agg (tpT b)], .slice a0 len0 cap0, .tuple #[.int .i64 id, .agg (tpT a), .agg (tpT b)], .int .i64 id, .agg (tpT a), .agg (tpT b), .int .i64 id, .agg (tpT a), .bool true, .bool false, .bool false, .int .i64 id, .agg (tpT b), .bool true, .bool false, .bool false, undef, undef, undef, undef, undef, undef, undef, undef, undef, undef, undef, undef, undef] (List.append [undef, undef, undef, undef, undef, undef, undef, undef, .int .i64 id, .agg (tpT c), .int .i64 id, .agg (tpT a), .agg (tpT b), .agg (tpT s), undef, undef, undef, undef, undef, undef, undef, undef, undef, undef, undef, undef, undef, undef, undef, undef, undef, undef, undef, undef, undef, undef, undef, undef, undef, undef] (List.append [undef, undef, undef, undef, undef, undef, undef, undef, undef, undef, undef, undef, undef, undef, undef, undef, undef, undef, undef, undef, undef, undef, undef, undef, undef, undef, undef, undef, undef, undef, undef, undef, undef, undef, undef, undef, undef, undef, undef, undef] ([undef])))), defers := [] } (by kernel_rfl) ?_
  refine (by assumption : ∀ (a : Act) (w_1 : World), Code.wp _ _ _ a w_1 → _) _ _ ?_
  go_upto_region 8 with (fail)
  replace HS := Lib.hid HG.out.h
  refine wp_region_line (S := fun w' => Held w' [(g12, tpT s, 25), (g9, tpT c, 25), (g3, tpT b, 25), (g2, tpT a, 25)]) [(true, 0), (true, 1), (false, 2), (false, 3), (false, 4)] (by kernel_rfl) (by kernel_rfl) HS.out ?_
  refine sq_ps [(0, .int .i64 id)] (by kernel_rfl) ?_
  refine sq_ld (some 55) (ld_pt (.tail _ (.tail _ (.tail _ (.head _)))) (by kernel_rfl)) (by kernel_rfl) ?_
  refine sq_c (some 56) Tryz.func14 (HNeg.out _) (by kernel_rfl) ?_
  rintro e v14 ⟨rfl, bw⟩
  replace HG := Lib.hid (HG.out.on bw)
  have HS := Lib.hid (HG.out.h)
  clear bw
  refine ⟨_, rfl, HS.out, ?_⟩
  have GEg15 := Lib.hid HG.out.b.size
  have APg15 := Lib.hid HG.out.h.apart
  replace HG := Lib.hid (HG.out.new (tpT noT) 25)
  have HS := Lib.hid (HG.out.h.tail)
  refine sq_alloc (some 8) 25 (tpT noT) (by kernel_rfl) (by kernel_rfl) (by kernel_rfl) (by kernel_rfl) (zero_pt _) HS.out ?_
  generalize v14.alloc _ = u15 at *
  generalize v14.heap.size = g15 at *
  have HN := Lib.hid (HG.out.h _ (.head _))
  replace HG := Lib.hid (HG.out.putAt GEg15.out APg15.out (tpT n))
  have HS := Lib.hid (HG.out.h.tail)
  refine sq_st 25 g15 (tpT n) HN.out Tryz.infoPoint rfl (by kernel_rfl) HS.out (by kernel_rfl) ?_
  clear HN
  generalize World.setRow _ g15 _ = t16 at *
  refine sq_fin { tmps := List.toArray (List.append [.slice a0 len0 cap0, undef, .bool false, .int .i64 id, .pointer (some ⟨g2, 0, none⟩), .pointer (some ⟨g3, 0, none⟩), .pointer (some ⟨g9, 0, none⟩), .pointer (some ⟨g12, 0, none⟩), .pointer (some ⟨g15, 0, none⟩), .slice a0 len0 cap0, .bool false, .tuple #[.int .i64 id, .agg (tpT a), .agg (tpT b)], .slice a0 len0 cap0, .tuple #[.int .i64 id, .agg (tpT a), .agg (tpT b)], .int .i64 id, .agg (tpT a), .agg (tpT b), .int .i64 id, .agg (tpT a), .bool true, .bool false, .bool false, .int .i64 id, .agg (tpT b), .bool true, .bool false, .bool false, undef, undef, undef, undef, undef, undef, undef, undef, undef, undef, undef, undef, undef] (List.append [undef, undef, undef, undef, undef, undef, undef, undef, .int .i64 id, .agg (tpT c), .int .i64 id, .agg (tpT a), .agg (tpT b), .agg (tpT s), .int .i64 id, .agg (tpT a), .agg (tpT n), undef, undef, undef, undef, undef, undef, undef, undef, undef, undef, undef, undef, undef, undef, undef, undef, undef, undef, undef, undef, undef, undef, undef] (List.append [undef, undef, undef, undef, undef, undef, undef, undef, undef, undef, undef, undef, undef, undef, undef, undef, undef, undef, undef, undef, undef, undef, undef, undef, undef, undef, undef, undef, undef, undef, undef, undef, undef, undef, undef, undef, undef, undef, undef, undef] ([undef])))), defers := [] } (by kernel_rfl) ?_
  refine (by assumption : ∀ (a : Act) (w_1 : World), Code.wp _ _ _ a w_1 → _) _ _ ?_
  go_upto_region 9 with (fail)
  replace HS := Lib.hid HG.out.h
  replace HG := Lib.hid HG.out.drew
  replace HS := Lib.hid HG.out.h
  refine sq_go (S := fun w' => Held w' [(g15, tpT n, 25), (g12, tpT s, 25), (g9, tpT c, 25), (g3, tpT b, 25), (g2, tpT a, 25)]) [(true, 0), (true, 1), (false, 2), (true, 3), (true, 4), (true, 5), (true, 6), (true, 7), (false, 8), (true, 9), (true, 10), (true, 11), (true, 12), (true, 13), (true, 14), (true, 16), (true, 17), (true, 18), (true, 19), (true, 20), (false, 15), (false, 21), (false, 22), (true, 23), (true, 24), (true, 25), (true, 26), (true, 27), (true, 28), (true, 30), (false, 29), (true, 31), (true, 32), (true, 33), (true, 34), (true, 35), (true, 36), (true, 38), (false, 37), (true, 39), (true, 40), (true, 41), (true, 42), (true, 43), (true, 44), (true, 45), (true, 48), (false, 46), (false, 47), (true, 49), (true, 50), (true, 51), (true, 52), (true, 53), (false, 54), (true, 55), (true, 56), (true, 57), (true, 58), (true, 59), (true, 61), (false, 60), (true, 62), (true, 63), (true, 64)] (by kernel_rfl) (fun d _ _ _ _ h => by cases d <;> exact h) HS.out ?_
  refine SQ.out ?_
  refine g_ps [(0, .int .i64 id)] (by kernel_rfl) ?_
  refine g_ld (some 58) (ld_pt (.tail _ (.head _)) (by kernel_rfl)) (by kernel_rfl) ?_
  refine g_c (some 59) Tryz.func8 (HSo.out _) (by kernel_rfl) ?_
  rintro e v17 ⟨rfl, bw⟩
  replace HG := Lib.hid (HG.out.on bw)
  have HS := Lib.hid (HG.out.h)
  clear bw
  refine ⟨_, rfl, HS.out, ?_⟩
  refine g_ps [(3, .bool true)] (by kernel_rfl) ?_
  refine g_ld (some 61) (ld_pt (.tail _ (.head _)) (by kernel_rfl)) (by kernel_rfl) ?_
  refine g_ps [(5, .int .i64 id)] (by kernel_rfl) ?_
  refine g_ld (some 63) (ld_pt (.tail _ (.tail _ (.tail _ (.head _)))) (by kernel_rfl)) (by kernel_rfl) ?_
  refine g_ld (some 64) (ld_pt (.tail _ (.tail _ (.tail _ (.tail _ (.head _))))) (by kernel_rfl)) (by kernel_rfl) ?_
  refine g_c (some 65) Tryz.func9 (HCm.out _) (by kernel_rfl) ?_
  rintro e v18 ⟨rfl, bw⟩
  replace HG := Lib.hid (HG.out.on bw)
  have HS := Lib.hid (HG.out.h)
  clear bw
  refine ⟨_, rfl, HS.out, ?_⟩
  refine g_take (some 66) (.bool true) (by kernel_rfl) (yields_eqPt (wanted_by (g := 3) (b := true) (d := 60) (by kernel_rfl) (by kernel_rfl) (by kernel_rfl) (by kernel_rfl)) (.tmp 61) (.tmp 65) (by kernel_rfl) s s true (decide_eq_true (rfl)) (by kernel_rfl) (by kernel_rfl)) ?_
  refine g_ps [(10, .bool true), (11, .bool true), (12, .int .i64 id)] (by kernel_rfl) ?_
  refine g_ld (some 70) (ld_pt (.tail _ (.head _)) (by kernel_rfl)) (by kernel_rfl) ?_
  refine g_ld (some 71) (ld_pt (.tail _ (.tail _ (.head _))) (by kernel_rfl)) (by kernel_rfl) ?_
  refine g_ps [(16, .int .i64 id)] (by kernel_rfl) ?_
  refine g_ld (some 74) (ld_pt (.tail _ (.tail _ (.tail _ (.tail _ (.head _))))) (by kernel_rfl)) (by kernel_rfl) ?_
  refine g_ps [(18, .int .i64 id)] (by kernel_rfl) ?_
  refine g_ld (some 76) (ld_pt (.tail _ (.tail _ (.tail _ (.head _)))) (by kernel_rfl)) (by kernel_rfl) ?_
  refine g_ld (some 77) (ld_pt (.tail _ (.tail _ (.head _))) (by kernel_rfl)) (by kernel_rfl) ?_
  refine g_c (some 72) Tryz.func9 (HSc.out _) (by kernel_rfl) ?_
  rintro e v19 ⟨rfl, bw⟩
  replace HG := Lib.hid (HG.out.on bw)
  have HS := Lib.hid (HG.out.h)
  clear bw
  refine ⟨_, rfl, HS.out, ?_⟩
  refine g_c (some 78) Tryz.func9 (HBc.out _) (by kernel_rfl) ?_
  rintro e v20 ⟨rfl, bw⟩
  replace HG := Lib.hid (HG.out.on bw)
  have HS := Lib.hid (HG.out.h)
  clear bw
  refine ⟨_, rfl, HS.out, ?_⟩
  refine g_c (some 79) Tryz.func9 (HAs.out _) (by kernel_rfl) ?_
  rintro e v21 ⟨rfl, bw⟩
  replace HG := Lib.hid (HG.out.on bw)
  have HS := Lib.hid (HG.out.h)
  clear bw
  refine ⟨_, rfl, HS.out, ?_⟩
  refine g_take (some 80) (.bool true) (by kernel_rfl) (yields_eqPt (wanted_by (g := 11) (b := true) (d := 68) (by kernel_rfl) (by kernel_rfl) (by kernel_rfl) (by kernel_rfl)) (.tmp 72) (.tmp 79) (by kernel_rfl) sc sc true (decide_eq_true (rfl)) (by kernel_rfl) (by kernel_rfl)) ?_
  refine g_ps [(24, .bool true), (25, .bool true), (26, .int .i64 id)] (by kernel_rfl) ?_
  refine g_ld (some 84) (ld_pt (.tail _ (.tail _ (.tail _ (.tail _ (.head _))))) (by kernel_rfl)) (by kernel_rfl) ?_
  refine g_ld (some 85) (ld_pt (.head _) (by kernel_rfl)) (by kernel_rfl) ?_
  refine g_pure (some 87) (.agg (tpT zeroT)) (by kernel_rfl) (wanted_by (g := 25) (b := true) (d := 82) (by kernel_rfl) (by kernel_rfl) (by kernel_rfl) (by kernel_rfl)) (held_build 25 #[(0, (.const (.bool true)))] (by kernel_rfl) _ (by kernel_rfl) _ built_ptz) ?_
  refine g_c (some 86) Tryz.func9 (HAn.out _) (by kernel_rfl) ?_
  rintro e v22 ⟨rfl, bw⟩
  replace HG := Lib.hid (HG.out.on bw)
  have HS := Lib.hid (HG.out.h)
  clear bw
  refine ⟨_, rfl, HS.out, ?_⟩
  refine g_take (some 88) (.bool true) (by kernel_rfl) (yields_eqPt (wanted_by (g := 25) (b := true) (d := 82) (by kernel_rfl) (by kernel_rfl) (by kernel_rfl) (by kernel_rfl)) (.tmp 86) (.tmp 87) (by kernel_rfl) zeroT zeroT true (decide_eq_true (rfl)) (by kernel_rfl) (by kernel_rfl)) ?_
  refine g_ps [(32, .bool true), (33, .bool true), (34, .int .i64 id)] (by kernel_rfl) ?_
  refine g_ld (some 92) (ld_pt (.tail _ (.head _)) (by kernel_rfl)) (by kernel_rfl) ?_
  refine g_ld (some 93) (ld_pt (.head _) (by kernel_rfl)) (by kernel_rfl) ?_
  refine g_ld (some 95) (ld_pt (.tail _ (.tail _ (.tail _ (.head _)))) (by kernel_rfl)) (by kernel_rfl) ?_
  refine g_c (some 94) Tryz.func9 (HBk.out _) (by kernel_rfl) ?_
  rintro e v23 ⟨rfl, bw⟩
  replace HG := Lib.hid (HG.out.on bw)
  have HS := Lib.hid (HG.out.h)
  clear bw
  refine ⟨_, rfl, HS.out, ?_⟩
  refine g_take (some 96) (.bool true) (by kernel_rfl) (yields_eqPt (wanted_by (g := 33) (b := true) (d := 90) (by kernel_rfl) (by kernel_rfl) (by kernel_rfl) (by kernel_rfl)) (.tmp 94) (.tmp 95) (by kernel_rfl) b b true (decide_eq_true (rfl)) (by kernel_rfl) (by kernel_rfl)) ?_
  refine g_ps [(40, .bool true), (41, .bool true), (42, .int .i64 id)] (by kernel_rfl) ?_
  refine g_ld (some 100) (ld_pt (.tail _ (.tail _ (.tail _ (.tail _ (.head _))))) (by kernel_rfl)) (by kernel_rfl) ?_
  refine g_ld (some 101) (ld_pt (.tail _ (.tail _ (.tail _ (.head _)))) (by kernel_rfl)) (by kernel_rfl) ?_
  refine g_ld (some 102) (ld_pt (.head _) (by kernel_rfl)) (by kernel_rfl) ?_
  refine g_ld (some 105) (ld_pt (.tail _ (.tail _ (.tail _ (.head _)))) (by kernel_rfl)) (by kernel_rfl) ?_
  replace HG := Lib.hid (HG.out.new (list3 a b n) 25)
  have HS := Lib.hid (HG.out.h.tail)
  refine g_slice3 (some 103) a b n (.tmp 100) (.tmp 101) (.tmp 102) (by kernel_rfl) (by kernel_rfl) (by kernel_rfl) (by kernel_rfl) (by kernel_rfl) (by kernel_rfl) (by kernel_rfl) HS.out ?_
  generalize v23.alloc _ = u24 at *
  generalize v23.heap.size = g24 at *
  refine g_c (some 104) Tryz.func15 (HSm.out _ _ (HG.out.h _ (.head _))) (by kernel_rfl) ?_
  rintro e v25 ⟨rfl, bw⟩
  replace HG := Lib.hid (HG.out.on bw)
  have HS := Lib.hid (HG.out.h.tail)
  clear bw
  refine ⟨_, rfl, HS.out, ?_⟩
  refine g_take (some 106) (.bool true) (by kernel_rfl) (yields_eqPt (wanted_by (g := 41) (b := true) (d := 98) (by kernel_rfl) (by kernel_rfl) (by kernel_rfl) (by kernel_rfl)) (.tmp 104) (.tmp 105) (by kernel_rfl) b b true (decide_eq_true (rfl)) (by kernel_rfl) (by kernel_rfl)) ?_
  refine g_ps [(50, .bool true), (51, .bool true)] (by kernel_rfl) ?_
  refine g_ld (some 109) (ld_pt (.tail _ (.head _)) (by kernel_rfl)) (by kernel_rfl) ?_
  refine g_ld (some 110) (ld_pt (.tail _ (.head _)) (by kernel_rfl)) (by kernel_rfl) ?_
  refine g_c (some 111) Tryz.func16 (HSa.out _) (by kernel_rfl) ?_
  rintro e v26 ⟨rfl, bw⟩
  replace HG := Lib.hid (HG.out.on bw)
  have HS := Lib.hid (HG.out.h.tail)
  clear bw
  refine ⟨_, rfl, HS.out, ?_⟩
  refine g_ps [(55, .bool true), (56, .bool true), (57, .int .i64 id)] (by kernel_rfl) ?_
  refine g_ld (some 115) (ld_pt (.tail _ (.tail _ (.tail _ (.tail _ (.head _))))) (by kernel_rfl)) (by kernel_rfl) ?_
  refine g_pure (some 116) (.agg (tpT zeroT)) (by kernel_rfl) (wanted_by (g := 56) (b := true) (d := 113) (by kernel_rfl) (by kernel_rfl) (by kernel_rfl) (by kernel_rfl)) (held_build 25 #[(0, (.const (.bool true)))] (by kernel_rfl) _ (by kernel_rfl) _ built_ptz) ?_
  refine g_ld (some 118) (ld_pt (.tail _ (.tail _ (.tail _ (.tail _ (.head _))))) (by kernel_rfl)) (by kernel_rfl) ?_
  refine g_c (some 117) Tryz.func9 (HNo.out _) (by kernel_rfl) ?_
  rintro e v27 ⟨rfl, bw⟩
  replace HG := Lib.hid (HG.out.on bw)
  have HS := Lib.hid (HG.out.h.tail)
  clear bw
  refine ⟨_, rfl, HS.out, ?_⟩
  refine g_take (some 119) (.bool true) (by kernel_rfl) (yields_eqPt (wanted_by (g := 56) (b := true) (d := 113) (by kernel_rfl) (by kernel_rfl) (by kernel_rfl) (by kernel_rfl)) (.tmp 117) (.tmp 118) (by kernel_rfl) a a true (decide_eq_true (rfl)) (by kernel_rfl) (by kernel_rfl)) ?_
  refine g_ps [(63, .bool true), (64, .bool true)] (by kernel_rfl) ?_
  refine g_done ?_
  refine (by assumption : ∀ (a : Act) (w_1 : World), Code.wp _ Code.ret _ a w_1 → _) _ _ ?_
  refine wp_ret ?_
  exact ret_at (v := .bool true) Tryz.results3 (by kernel_rfl) (by kernel_rfl) ⟨rfl, HG.out.b⟩
end Go.Proofs.YtkmmlfocidfghaaGreat

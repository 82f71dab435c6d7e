import Derived.Test.YtejmogdognenmaaJTri
/-
  The contracts of impl's pairs over a prime: sums, differences and products of rows over it.
-/
namespace Go.Proofs.Ytejmogdognenmaa
open Go.RowKit
set_option maxRecDepth 8000 in
set_option maxHeartbeats 4000000 in
theorem sum_any {g n x y : Nat} {a b p : Rw} {w : World} (hg : RowA w g p.l p.c) (ha : a.Ok x) (hb : b.Ok y) (hp : p.Ok n) (hx : x < n) (hy : y < n) (hG : n < GB) :
    Calls Try.prog 68 #[.pointer (some ⟨g, 0, none⟩), .agg a.C, .agg b.C] w (RwPost ((x + y) % n) w) := by
  obtain ⟨_, post, t, hg⟩ := hg
  have C1 := Lib.hid (sumR_any ha hb hp hx hy hG)
  obtain ⟨Z, hz, HZ⟩ := zero_limb
  have HZs := Lib.hid hz
  have H0 : Held w [(g, rowC p.l p.c ++ post, t)] := (Held.none w).cons hg
  have HG0 := Lib.hid (begun3 H0 a.C b.C Z 56 56 56).drew
  have HS0 := Lib.hid HG0.out.h
  have FA := Lib.hid (show ∀ w', Held w' ((w.heap.size + 1, b.C, 56) :: (w.heap.size, a.C, 56) :: [(g, rowC p.l p.c ++ post, t)]) → (Instr.loadAt 56 (.pointer (some ⟨w.heap.size, 0, none⟩))).run Try.prog w' = .ok (.agg a.C) w' from fun w' hw => row_loadL ha (hw _ (.tail _ (.head _))))
  have FB := Lib.hid (show ∀ w', Held w' ((w.heap.size + 1, b.C, 56) :: (w.heap.size, a.C, 56) :: [(g, rowC p.l p.c ++ post, t)]) → (Instr.loadAt 56 (.pointer (some ⟨w.heap.size + 1, 0, none⟩))).run Try.prog w' = .ok (.agg b.C) w' from fun w' hw => row_loadL hb (hw _ (.head _)))
  have FP := Lib.hid (show ∀ w', Held w' ((w.heap.size + 1, b.C, 56) :: (w.heap.size, a.C, 56) :: [(g, rowC p.l p.c ++ post, t)]) → (Instr.loadAt 56 (.pointer (some ⟨g, 0, none⟩))).run Try.prog w' = .ok (.agg p.C) w' from fun w' hw => (RowA.part ⟨hp.len, post, t, hw _ (.tail _ (.tail _ (.head _)))⟩).loadL)
  clear hg ha hb hp hx hy hG hz H0
  go_enter Try.func68, Try.ntmps68
  go_wp2_with fail
  generalize ((w.alloc _).alloc _).alloc _ = w0 at *
  refine sq_go (S := fun w' => Held w' ((w.heap.size + 1, b.C, 56) :: (w.heap.size, a.C, 56) :: [(g, rowC p.l p.c ++ post, t)])) [(true, 0), (true, 1), (true, 2), (true, 3), (true, 4), (true, 5), (false, 6), (false, 7)] (by kernel_rfl) (fun d _ _ _ _ h => by cases d <;> exact h) HS0.out ?_
  refine sq_ld (some 7) FA.out (by kernel_rfl) ?_
  refine sq_ld (some 8) FB.out (by kernel_rfl) ?_
  refine sq_ps [(2, .pointer (some ⟨g, 0, none⟩)), (3, .pointer (some ⟨g, 0, none⟩)), (4, .pointer (some ⟨g, 0, none⟩))] (by kernel_rfl) ?_
  refine sq_ld (some 12) FP.out (by kernel_rfl) ?_
  refine sq_c (some 13) Try.func85 (C1.out _) (by kernel_rfl) ?_
  rintro e w1 ⟨r1, rfl, hr1, bw1⟩
  have HG1 := Lib.hid (HG0.out.on bw1)
  have HS1 := Lib.hid HG1.out.h
  refine ⟨_, rfl, HS1.out, ?_⟩
  refine sq_st 56 (w.heap.size + 1 + 1) (r1.C) HG1.out.out (by rw [hr1.size]; exact Try.infoLimb) (HZs.out.trans hr1.size.symm) (rowC_one _ _) (HS1.out.setRow HG1.out.ne) (by kernel_rfl) ?_
  have HE := Lib.hid (HG1.out.put (by omega) r1.C)
  have HR := Lib.hid hr1
  clear HG1 HS1 FA FB FP C1
  refine sq_fin { tmps := #[(.pointer (some ⟨g, 0, none⟩)), (.agg a.C), (.agg b.C), undef, (.pointer (some ⟨w.heap.size, 0, none⟩)), (.pointer (some ⟨(w.heap.size + 1), 0, none⟩)), (.pointer (some ⟨(w.heap.size + 1 + 1), 0, none⟩)), (.agg a.C), (.agg b.C), (.pointer (some ⟨g, 0, none⟩)), (.pointer (some ⟨g, 0, none⟩)), (.pointer (some ⟨g, 0, none⟩)), (.agg p.C), (.agg r1.C)], defers := [] } (by kernel_rfl) ?_
  refine (by assumption : ∀ (a : Act) (w_1 : World), Code.wp _ Code.ret _ a w_1 → _) _ _ ?_
  refine wp_ret ?_
  exact bodyPost_ret (results_cell_row Try.results68 _ _ (w.heap.size + 1 + 1) _ _ _ _ rfl HE.out.out Try.underlying56 rfl (by rw [HR.out.size]; exact Try.infoLimb)) rfl ⟨r1, rfl, HR.out, HE.out.b⟩
set_option maxRecDepth 8000 in
set_option maxHeartbeats 4000000 in
theorem product_any {g n x y : Nat} {a b p : Rw} {w : World} (hg : RowA w g p.l p.c) (ha : a.Ok x) (hb : b.Ok y) (hp : p.Ok n) (hx : x < n) (hy : y < n) (hG : n < GB) :
    Calls Try.prog 69 #[.pointer (some ⟨g, 0, none⟩), .agg a.C, .agg b.C] w (RwPost (x * y % n) w) := by
  obtain ⟨_, post, t, hg⟩ := hg
  have C1 := Lib.hid (productR_any ha hb hp hx hy hG)
  obtain ⟨Z, hz, HZ⟩ := zero_limb
  have HZs := Lib.hid hz
  have H0 : Held w [(g, rowC p.l p.c ++ post, t)] := (Held.none w).cons hg
  have HG0 := Lib.hid (begun3 H0 a.C b.C Z 56 56 56).drew
  have HS0 := Lib.hid HG0.out.h
  have FA := Lib.hid (show ∀ w', Held w' ((w.heap.size + 1, b.C, 56) :: (w.heap.size, a.C, 56) :: [(g, rowC p.l p.c ++ post, t)]) → (Instr.loadAt 56 (.pointer (some ⟨w.heap.size, 0, none⟩))).run Try.prog w' = .ok (.agg a.C) w' from fun w' hw => row_loadL ha (hw _ (.tail _ (.head _))))
  have FB := Lib.hid (show ∀ w', Held w' ((w.heap.size + 1, b.C, 56) :: (w.heap.size, a.C, 56) :: [(g, rowC p.l p.c ++ post, t)]) → (Instr.loadAt 56 (.pointer (some ⟨w.heap.size + 1, 0, none⟩))).run Try.prog w' = .ok (.agg b.C) w' from fun w' hw => row_loadL hb (hw _ (.head _)))
  have FP := Lib.hid (show ∀ w', Held w' ((w.heap.size + 1, b.C, 56) :: (w.heap.size, a.C, 56) :: [(g, rowC p.l p.c ++ post, t)]) → (Instr.loadAt 56 (.pointer (some ⟨g, 0, none⟩))).run Try.prog w' = .ok (.agg p.C) w' from fun w' hw => (RowA.part ⟨hp.len, post, t, hw _ (.tail _ (.tail _ (.head _)))⟩).loadL)
  clear hg ha hb hp hx hy hG hz H0
  go_enter Try.func69, Try.ntmps69
  go_wp2_with fail
  generalize ((w.alloc _).alloc _).alloc _ = w0 at *
  refine sq_go (S := fun w' => Held w' ((w.heap.size + 1, b.C, 56) :: (w.heap.size, a.C, 56) :: [(g, rowC p.l p.c ++ post, t)])) [(true, 0), (true, 1), (true, 2), (true, 3), (true, 4), (true, 5), (false, 6), (false, 7)] (by kernel_rfl) (fun d _ _ _ _ h => by cases d <;> exact h) HS0.out ?_
  refine sq_ld (some 7) FA.out (by kernel_rfl) ?_
  refine sq_ld (some 8) FB.out (by kernel_rfl) ?_
  refine sq_ps [(2, .pointer (some ⟨g, 0, none⟩)), (3, .pointer (some ⟨g, 0, none⟩)), (4, .pointer (some ⟨g, 0, none⟩))] (by kernel_rfl) ?_
  refine sq_ld (some 12) FP.out (by kernel_rfl) ?_
  refine sq_c (some 13) Try.func66 (C1.out _) (by kernel_rfl) ?_
  rintro e w1 ⟨r1, rfl, hr1, bw1⟩
  have HG1 := Lib.hid (HG0.out.on bw1)
  have HS1 := Lib.hid HG1.out.h
  refine ⟨_, rfl, HS1.out, ?_⟩
  refine sq_st 56 (w.heap.size + 1 + 1) (r1.C) HG1.out.out (by rw [hr1.size]; exact Try.infoLimb) (HZs.out.trans hr1.size.symm) (rowC_one _ _) (HS1.out.setRow HG1.out.ne) (by kernel_rfl) ?_
  have HE := Lib.hid (HG1.out.put (by omega) r1.C)
  have HR := Lib.hid hr1
  clear HG1 HS1 FA FB FP C1
  refine sq_fin { tmps := #[(.pointer (some ⟨g, 0, none⟩)), (.agg a.C), (.agg b.C), undef, (.pointer (some ⟨w.heap.size, 0, none⟩)), (.pointer (some ⟨(w.heap.size + 1), 0, none⟩)), (.pointer (some ⟨(w.heap.size + 1 + 1), 0, none⟩)), (.agg a.C), (.agg b.C), (.pointer (some ⟨g, 0, none⟩)), (.pointer (some ⟨g, 0, none⟩)), (.pointer (some ⟨g, 0, none⟩)), (.agg p.C), (.agg r1.C)], defers := [] } (by kernel_rfl) ?_
  refine (by assumption : ∀ (a : Act) (w_1 : World), Code.wp _ Code.ret _ a w_1 → _) _ _ ?_
  refine wp_ret ?_
  exact bodyPost_ret (results_cell_row Try.results69 _ _ (w.heap.size + 1 + 1) _ _ _ _ rfl HE.out.out Try.underlying56 rfl (by rw [HR.out.size]; exact Try.infoLimb)) rfl ⟨r1, rfl, HR.out, HE.out.b⟩
set_option maxRecDepth 8000 in
set_option maxHeartbeats 4000000 in
theorem norm_any {gx n : Nat} {x : Pn} {p a b : Rw} {w : World} (hgx : w.heap[gx]? = some (.cells (triC p a b) 60 (0, 0))) (X : Tri n x p a b) (hx : InP2 n x) (hG : n < GB) :
    Calls Try.prog 49 #[.pointer (some ⟨gx, 0, none⟩)] w (RwPost (normP n x) w) := by
  obtain ⟨Z, hz, HZ⟩ := zero_limb
  have HZs := Lib.hid hz
  have H0 : Held w [(gx, triC p a b, 60)] := (Held.none w).cons hgx
  have HG0 := Lib.hid (begun1 H0 Z 56).drew
  have HS0 := Lib.hid HG0.out.h
  have FXA := Lib.hid (show ∀ w', Held w' [(gx, triC p a b, 60)] → (Instr.loadAt 56 (.pointer (some ⟨gx, 82, none⟩))).run Try.prog w' = .ok (.agg a.C) w' from fun w' hw => (X.rowA (hw _ (.head _))).loadL)
  have FXB := Lib.hid (show ∀ w', Held w' [(gx, triC p a b, 60)] → (Instr.loadAt 56 (.pointer (some ⟨gx, 164, none⟩))).run Try.prog w' = .ok (.agg b.C) w' from fun w' hw => (X.rowB (hw _ (.head _))).loadL)
  have h0 : 0 < n := Nat.lt_of_le_of_lt (Nat.zero_le _) hx.1
  have C1 := Lib.hid (show ∀ w', Held w' [(gx, triC p a b, 60)] → Calls Try.prog 69 #[.pointer (some ⟨gx, 0, none⟩), .agg a.C, .agg a.C] w' (RwPost (x.1 * x.1 % n) w') from fun w' hw => product_any (X.rowP (hw _ (.head _))) X.ha X.ha X.hp hx.1 hx.1 hG)
  have C2 := Lib.hid (show ∀ w', Held w' [(gx, triC p a b, 60)] → Calls Try.prog 69 #[.pointer (some ⟨gx, 0, none⟩), .agg b.C, .agg b.C] w' (RwPost (x.2 * x.2 % n) w') from fun w' hw => product_any (X.rowP (hw _ (.head _))) X.hb X.hb X.hp hx.2 hx.2 hG)
  have C3 := Lib.hid (show ∀ (r s : Rw) (w' : World), Held w' [(gx, triC p a b, 60)] → r.Ok (x.1 * x.1 % n) → s.Ok (x.2 * x.2 % n) → Calls Try.prog 68 #[.pointer (some ⟨gx, 0, none⟩), .agg r.C, .agg s.C] w' (RwPost (normP n x) w') from fun r s w' hw hr hs => sum_any (X.rowP (hw _ (.head _))) hr hs X.hp (Nat.mod_lt _ h0) (Nat.mod_lt _ h0) hG)
  clear hgx X hx hG hz H0 h0
  go_enter Try.func49, Try.ntmps49
  go_wp2_with fail
  generalize w.alloc _ = w0 at *
  refine sq_go (S := fun w' => Held w' [(gx, triC p a b, 60)]) [(true, 0), (true, 1), (true, 2), (true, 3), (true, 4), (true, 5), (true, 6), (true, 7), (true, 8), (true, 9), (true, 10), (true, 11), (true, 12), (true, 13), (true, 15), (true, 16), (true, 17), (true, 18), (true, 19), (true, 20), (true, 21), (true, 22), (true, 23), (true, 24), (true, 25), (false, 14), (false, 26), (false, 27), (false, 28)] (by kernel_rfl) (fun d _ _ _ _ h => by cases d <;> exact h) HS0.out ?_
  refine sq_ps [(0, .pointer (some ⟨gx, 0, none⟩)), (1, .pointer (some ⟨gx, 0, none⟩)), (2, .pointer (some ⟨gx, 0, none⟩)), (3, .pointer (some ⟨gx, 0, none⟩)), (4, .pointer (some ⟨gx, 0, none⟩)), (5, .pointer (some ⟨gx, 0, none⟩)), (6, .pointer (some ⟨gx, 0, none⟩)), (7, .pointer (some ⟨gx, 0, none⟩)), (8, .pointer (some ⟨gx, 82, none⟩))] (by kernel_rfl) ?_
  refine sq_ld (some 12) FXA.out (by kernel_rfl) ?_
  refine sq_ps [(10, .pointer (some ⟨gx, 0, none⟩)), (11, .pointer (some ⟨gx, 0, none⟩)), (12, .pointer (some ⟨gx, 82, none⟩))] (by kernel_rfl) ?_
  refine sq_ld (some 16) FXA.out (by kernel_rfl) ?_
  refine sq_ps [(15, .pointer (some ⟨gx, 0, none⟩)), (16, .pointer (some ⟨gx, 0, none⟩)), (17, .pointer (some ⟨gx, 0, none⟩)), (18, .pointer (some ⟨gx, 0, none⟩)), (19, .pointer (some ⟨gx, 0, none⟩)), (20, .pointer (some ⟨gx, 164, none⟩))] (by kernel_rfl) ?_
  refine sq_ld (some 24) FXB.out (by kernel_rfl) ?_
  refine sq_ps [(22, .pointer (some ⟨gx, 0, none⟩)), (23, .pointer (some ⟨gx, 0, none⟩)), (24, .pointer (some ⟨gx, 164, none⟩))] (by kernel_rfl) ?_
  refine sq_ld (some 28) FXB.out (by kernel_rfl) ?_
  refine sq_c (some 17) Try.func69 (C1.out _ HS0.out) (by kernel_rfl) ?_
  rintro e w1 ⟨r1, rfl, hr1, bw1⟩
  have HG1 := Lib.hid (HG0.out.on bw1)
  have HS1 := Lib.hid HG1.out.h
  refine ⟨_, rfl, HS1.out, ?_⟩
  refine sq_c (some 29) Try.func69 (C2.out _ HS1.out) (by kernel_rfl) ?_
  rintro e w2 ⟨r2, rfl, hr2, bw2⟩
  have HG2 := Lib.hid (HG1.out.on bw2)
  have HS2 := Lib.hid HG2.out.h
  refine ⟨_, rfl, HS2.out, ?_⟩
  refine sq_c (some 30) Try.func68 (C3.out _ _ _ HS2.out hr1 hr2) (by kernel_rfl) ?_
  rintro e w3 ⟨r3, rfl, hr3, bw3⟩
  have HG3 := Lib.hid (HG2.out.on bw3)
  have HS3 := Lib.hid HG3.out.h
  refine ⟨_, rfl, HS3.out, ?_⟩
  refine sq_st 56 w.heap.size (r3.C) HG3.out.out (by rw [hr3.size]; exact Try.infoLimb) (HZs.out.trans hr3.size.symm) (rowC_one _ _) (HS3.out.setRow HG3.out.ne) (by kernel_rfl) ?_
  have HE := Lib.hid (HG3.out.put (by omega) r3.C)
  have HR := Lib.hid hr3
  clear HG3 HS3
  refine sq_fin { tmps := #[(.pointer (some ⟨gx, 0, none⟩)), undef, (.pointer (some ⟨w.heap.size, 0, none⟩)), (.pointer (some ⟨gx, 0, none⟩)), (.pointer (some ⟨gx, 0, none⟩)), (.pointer (some ⟨gx, 0, none⟩)), (.pointer (some ⟨gx, 0, none⟩)), (.pointer (some ⟨gx, 0, none⟩)), (.pointer (some ⟨gx, 0, none⟩)), (.pointer (some ⟨gx, 0, none⟩)), (.pointer (some ⟨gx, 0, none⟩)), (.pointer (some ⟨gx, 82, none⟩)), (.agg a.C), (.pointer (some ⟨gx, 0, none⟩)), (.pointer (some ⟨gx, 0, none⟩)), (.pointer (some ⟨gx, 82, none⟩)), (.agg a.C), (.agg r1.C), (.pointer (some ⟨gx, 0, none⟩)), (.pointer (some ⟨gx, 0, none⟩)), (.pointer (some ⟨gx, 0, none⟩)), (.pointer (some ⟨gx, 0, none⟩)), (.pointer (some ⟨gx, 0, none⟩)), (.pointer (some ⟨gx, 164, none⟩)), (.agg b.C), (.pointer (some ⟨gx, 0, none⟩)), (.pointer (some ⟨gx, 0, none⟩)), (.pointer (some ⟨gx, 164, none⟩)), (.agg b.C), (.agg r2.C), (.agg r3.C)], defers := [] } (by kernel_rfl) ?_
  refine (by assumption : ∀ (a : Act) (w_1 : World), Code.wp _ Code.ret _ a w_1 → _) _ _ ?_
  refine wp_ret ?_
  exact bodyPost_ret (results_cell_row Try.results49 _ _ (w.heap.size) _ _ _ _ rfl HE.out.out Try.underlying56 rfl (by rw [HR.out.size]; exact Try.infoLimb)) rfl ⟨r3, rfl, HR.out, HE.out.b⟩
set_option maxRecDepth 8000 in
set_option maxHeartbeats 4000000 in
theorem pairOf_any (x : Pt) (p : ByteArray) (w : World) (s1 : x.1.size ≤ 160) (s2 : x.2.size ≤ 160) (sp : p.size ≤ 160) :
    Calls Try.prog 48 #[.agg (aggT x), .string p] w (TriPost (gV p) (valP x) w) := by
  obtain ⟨Z, hz, HZ⟩ := zero_tri
  have HZs := Lib.hid hz
  have HG0 := Lib.hid (begun2 (Held.none w) (aggT x) Z 27 60).drew
  have HS0 := Lib.hid HG0.out.h
  have FA := Lib.hid (show ∀ w', Held w' [(w.heap.size, aggT x, 27)] → (Instr.loadAt 9 (.pointer (some ⟨w.heap.size, 0, none⟩))).run Try.prog w' = .ok (.string x.1) w' from fun w' hw => str_load (agg_cells (hw _ (.head _))).1)
  have FB := Lib.hid (show ∀ w', Held w' [(w.heap.size, aggT x, 27)] → (Instr.loadAt 9 (.pointer (some ⟨w.heap.size, 1, none⟩))).run Try.prog w' = .ok (.string x.2) w' from fun w' hw => str_load (agg_cells (hw _ (.head _))).2)
  have C1 := Lib.hid (rowR_any p sp)
  have C2 := Lib.hid (rowR_any x.1 s1)
  have C3 := Lib.hid (rowR_any x.2 s2)
  clear s1 s2 sp hz
  go_enter Try.func48, Try.ntmps48
  go_wp2_with fail
  generalize (w.alloc _).alloc _ = w0 at *
  refine sq_go (S := fun w' => Held w' [(w.heap.size, aggT x, 27)]) [(true, 0), (true, 3), (true, 4), (true, 6), (true, 7), (false, 1), (true, 2), (false, 5), (false, 8), (true, 9), (false, 10)] (by kernel_rfl) (fun d _ _ _ _ h => by cases d <;> exact h) HS0.out ?_
  refine sq_ps [(0, .string p), (3, .pointer (some ⟨w.heap.size, 0, none⟩))] (by kernel_rfl) ?_
  refine sq_ld (some 9) FA.out (by kernel_rfl) ?_
  refine sq_ps [(6, .pointer (some ⟨w.heap.size, 1, none⟩))] (by kernel_rfl) ?_
  refine sq_ld (some 12) FB.out (by kernel_rfl) ?_
  refine sq_c (some 6) Try.func64 (C1.out _) (by kernel_rfl) ?_
  rintro e w1 ⟨r1, rfl, hr1, bw1⟩
  have HG1 := Lib.hid (HG0.out.on bw1)
  have HS1 := Lib.hid HG1.out.h
  refine ⟨_, rfl, HS1.out, ?_⟩
  refine sq_pure (some 7) (.agg r1.C) (by kernel_rfl) (by kernel_rfl) (held_build 58 #[(0, (.tmp 6))] (by kernel_rfl) _ (by kernel_rfl) _ (built_prime hr1)) ?_
  refine sq_c (some 10) Try.func64 (C2.out _) (by kernel_rfl) ?_
  rintro e w2 ⟨r2, rfl, hr2, bw2⟩
  have HG2 := Lib.hid (HG1.out.on bw2)
  have HS2 := Lib.hid HG2.out.h
  refine ⟨_, rfl, HS2.out, ?_⟩
  refine sq_c (some 13) Try.func64 (C3.out _) (by kernel_rfl) ?_
  rintro e w3 ⟨r3, rfl, hr3, bw3⟩
  have T3 := Lib.hid (Tri.mk (x := valP x) hr1 hr2 hr3)
  have HG3 := Lib.hid (HG2.out.on bw3)
  have HS3 := Lib.hid HG3.out.h
  refine ⟨_, rfl, HS3.out, ?_⟩
  refine sq_pure (some 14) (.agg (triC r1 r2 r3)) (by kernel_rfl) (by kernel_rfl) (held_build 60 #[(0, (.tmp 7)), (1, (.tmp 10)), (2, (.tmp 13))] (by kernel_rfl) _ (by kernel_rfl) _ (built_tri T3.out)) ?_
  refine sq_st 60 (w.heap.size + 1) (triC r1 r2 r3) HG3.out.out (by rw [T3.out.size]; exact Try.infoTri) (HZs.out.trans T3.out.size.symm) (tri_one _ _ _) (HS3.out.setRow HG3.out.ne) (by kernel_rfl) ?_
  have HE := Lib.hid (HG3.out.put (by omega) (triC r1 r2 r3))
  clear HG3 HS3
  refine sq_fin { tmps := #[(.agg (aggT x)), (.string p), (.pointer (some ⟨w.heap.size, 0, none⟩)), undef, (.pointer (some ⟨(w.heap.size + 1), 0, none⟩)), (.string p), (.agg r1.C), (.agg r1.C), (.pointer (some ⟨w.heap.size, 0, none⟩)), (.string x.1), (.agg r2.C), (.pointer (some ⟨w.heap.size, 1, none⟩)), (.string x.2), (.agg r3.C), (.agg (triC r1 r2 r3))], defers := [] } (by kernel_rfl) ?_
  refine (by assumption : ∀ (a : Act) (w_1 : World), Code.wp _ Code.ret _ a w_1 → _) _ _ ?_
  refine wp_ret ?_
  exact bodyPost_ret (results_cell_row Try.results48 _ _ ((w.heap.size + 1)) _ _ _ _ rfl HE.out.out Try.underlying60 rfl (by rw [T3.out.size]; exact Try.infoTri)) rfl ⟨r1, r2, r3, rfl, T3.out, HE.out.b⟩
end Go.Proofs.Ytejmogdognenmaa
/-
  The contract of impl's pairOver.times.
-/
namespace Go.Proofs.Ytejmogdognenmaa
open Go.RowKit
end Go.Proofs.Ytejmogdognenmaa
/-
  Helpers for impl's exported functions of pairs; the contracts of impl.PairOk and NormOf.
-/
namespace Go.Proofs.Ytejmogdognenmaa
open Go.RowKit
theorem pair_sizes {x : Pt} {p : ByteArray} (h : pairB x p = true) : (x.1.size ≤ 160 ∧ x.2.size ≤ 160 ∧ p.size ≤ 160) ∧ InP2 (gV p) (valP x) ∧ 1 < gV p ∧ gV p < GB := by
  obtain ⟨hm, h1, h2⟩ := pairB_parts h
  obtain ⟨okp, hp⟩ := modB_parts hm
  exact ⟨⟨okG_size' (restB_parts h1).1, okG_size' (restB_parts h2).1, okG_size' okp⟩, (pair_num h).1, hp, gV_lt okp⟩
theorem row_part {w : World} {g : Nat} {r : Rw} {x : Nat} {t : TypeId} (h : r.Ok x) (hg : w.heap[g]? = some (.cells r.C t (0, 0))) : RowP w g 0 r.l r.c := ⟨h.len, #[], #[], t, by rw [hg]; unfold Rw.C; simp, rfl⟩
set_option maxRecDepth 8000 in
set_option maxHeartbeats 2000000 in
theorem pairOk_i (x : Pt) (p : ByteArray) (w : World) : Calls Try.prog 20 #[.agg (aggT x), .string p] w fun e w' => e = .returned (.bool (pairB x p)) ∧ Below w.heap.size w w' := by
  have HM := Lib.hid (leaves_s p)
  have H1 := Lib.hid (restOk_i x.1 p)
  have H2 := Lib.hid (restOk_i x.2 p)
  have HN := Lib.hid (agg_new w x 27)
  obtain ⟨c1, c2⟩ := agg_cells HN.out.1
  unfold pairB
  cases hm : modB p with
  | false =>
    rw [hm] at HM
    go_enter Try.func20, Try.ntmps20
    go_wp2_with fail
    refine (HM.out _).mono ?_
    rintro e w1 ⟨rfl, rfl⟩
    go_wp2
    go_ret
    exact ⟨rfl, HN.out.2⟩
  | true =>
    rw [hm] at HM
    rw [Bool.true_and]
    cases hr : restB x.1 p with
    | false =>
      rw [hr] at H1
      go_enter Try.func20, Try.ntmps20
      go_wp2_with fail
      refine (HM.out _).mono ?_
      rintro e w1 ⟨rfl, rfl⟩
      go_wp2_with fail
      refine (H1.out _).mono ?_
      rintro e w2 ⟨rfl, b2⟩
      have bb := bt HN.out.2 b2
      go_wp2
      go_ret
      exact ⟨rfl, bb⟩
    | true =>
      rw [hr] at H1
      rw [Bool.true_and]
      generalize restB x.2 p = r2 at *
      clear hm hr
      go_enter Try.func20, Try.ntmps20
      go_wp2_with fail
      refine (HM.out _).mono ?_
      rintro e w1 ⟨rfl, rfl⟩
      go_wp2_with fail
      refine (H1.out _).mono ?_
      rintro e w2 ⟨rfl, b2⟩
      have c3 : w2.cell? ⟨w.heap.size, 1, none⟩ = some (.string x.2) := by rw [b2.cell (by simp)]; exact c2
      have HB2 := Lib.hid (bt HN.out.2 b2)
      clear b2 c1 c2
      go_wp2_with fail
      refine (H2.out _).mono ?_
      rintro e w3 ⟨rfl, b3⟩
      have bb := bt HB2.out b3
      clear b3
      go_wp2
      go_ret
      exact ⟨rfl, bb⟩
set_option maxRecDepth 8000 in
set_option maxHeartbeats 2000000 in
theorem normOf_i (x : Pt) (p : ByteArray) (w : World) : Calls Try.prog 25 #[.agg (aggT x), .string p] w fun e w' => e = .returned (.string (normG x p)) ∧ Below w.heap.size w w' := by
  have HP := Lib.hid (pairOk_i x p)
  have HN := Lib.hid (agg_new w x 27)
  unfold normG
  cases hx : pairB x p with
  | false =>
    rw [hx] at HP
    rw [if_neg (by decide)]
    clear hx
    go_enter Try.func25, Try.ntmps25
    go_wp2_with (first | refine load_p rfl (.tmp 2) rfl w.heap.size x rfl HN.out.1 ?_)
    refine (HP.out _).mono ?_
    rintro e w1 ⟨rfl, b1⟩
    have B1 := Lib.hid (bt HN.out.2 b1)
    clear b1
    go_wp2
    go_ret
    exact ⟨rfl, B1.out⟩
  | true =>
    rw [hx] at HP
    rw [if_pos rfl]
    obtain ⟨⟨s1, s2, sp⟩, ix, h1, hG⟩ := pair_sizes hx
    obtain ⟨ZT, hzt, HZT⟩ := zero_tri
    have HZTs := Lib.hid hzt
    obtain ⟨ZL, hzl, HZL⟩ := zero_limb
    have HZLs := Lib.hid hzl
    have I1 := Lib.hid (fun w => pairOf_any x p w s1 s2 sp)
    have HI := Lib.hid (And.intro ix hG)
    have HLt := Lib.hid (Nat.lt_trans (normP_lt (show 0 < gV p by omega) (valP x)) hG)
    clear hx s1 s2 sp h1 hzt hzl ix hG
    go_enter Try.func25, Try.ntmps25
    go_wp2_with (first | refine load_p rfl (.tmp 2) rfl w.heap.size x rfl HN.out.1 ?_)
    refine (HP.out _).mono ?_
    rintro e w1 ⟨rfl, b1⟩
    have HX1 := Lib.hid (stays b1 HN.out.1)
    have B1 := Lib.hid (bt HN.out.2 b1)
    clear b1 HN HP
    go_wp2_with (first | refine load_p rfl (.tmp 2) rfl w.heap.size x rfl HX1.out ?_)
    refine (I1.out _).mono ?_
    rintro e w2 ⟨q, a, b, rfl, T, b2⟩
    have HT := Lib.hid T
    have HG2 := Lib.hid (begun1 (Held.none w2) ZT 60)
    have HE2 := Lib.hid (HG2.out.put (Nat.le_refl _) (triC q a b))
    have B2 := Lib.hid (bt (bt B1.out b2) HE2.out.b)
    clear b2 B1 HX1 I1 T
    go_wp2_with (first | refine store_v rfl 60 (.tmp 5) (.tmp 13) rfl w2.heap.size ZT (triC q a b) rfl rfl HG2.out.out (by rw [HT.out.size]; exact Try.infoTri) (HZTs.out.trans HT.out.size.symm) (tri_one _ _ _) ?_)
    refine (norm_any HE2.out.out HT.out HI.out.1 HI.out.2).mono ?_
    rintro e w4 ⟨r, rfl, hr, b4⟩
    have HR := Lib.hid hr
    have HG4 := Lib.hid (begun1 (Held.none w4) ZL 56)
    have HE4 := Lib.hid (HG4.out.put (Nat.le_refl _) r.C)
    have B4 := Lib.hid (bt (bt B2.out b4) HE4.out.b)
    clear b4 B2 HG2 HE2 hr
    go_wp2_with (first | refine store_v rfl 56 (.tmp 6) (.tmp 14) rfl w4.heap.size ZL r.C rfl rfl HG4.out.out (by rw [HR.out.size]; exact Try.infoLimb) (HZLs.out.trans HR.out.size.symm) (rowC_one _ _) ?_)
    refine (greatR_any (row_part HR.out HE4.out.out) HR.out HLt.out).mono ?_
    rintro e w5 ⟨rfl, b5⟩
    have B5 := Lib.hid (bt B4.out b5)
    clear b5 B4 HG4 HE4
    go_wp2
    go_ret
    exact ⟨rfl, B5.out⟩
end Go.Proofs.Ytejmogdognenmaa

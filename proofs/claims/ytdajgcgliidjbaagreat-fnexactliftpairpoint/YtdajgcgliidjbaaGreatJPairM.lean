import Derived.Test.YtdajgcgliidjbaaGreatJTri
set_option maxRecDepth 8000
set_option maxHeartbeats 4000000
namespace Go.Proofs.YtdajgcgliidjbaaGreat
open Go.RowKit
theorem sum_any {g n x y : Nat} {a b p : Rw} {w : World} (hg : RowA w g p.l p.c) (ha : a.Ok x) (hb : b.Ok y) (hp : p.Ok n) (hx : x < n) (hy : y < n) (hG : n < GB) :
  Calls Tryz.prog 108 #[.pointer (some ⟨g, 0, none⟩), .agg a.C, .agg b.C] w (RwPost ((x + y) % n) w) := by
 obtain ⟨_, post, t, hg⟩ := hg
 have C1 := Lib.hid (sumR_any ha hb hp hx hy hG)
 obtain ⟨Z, hz, HZ⟩ := zero_limb
 have HZs := Lib.hid hz
 have H0 : Held w [(g, rowC p.l p.c ++ post, t)] := (Held.none w).cons hg
 have HG0 := Lib.hid (begun3 H0 a.C b.C Z 100 100 100).drew
 have HS0 := Lib.hid HG0.out.h
 have FA := Lib.hid (show ∀ w', Held w' ((w.heap.size + 1, b.C, 100) :: (w.heap.size, a.C, 100) :: [(g, rowC p.l p.c ++ post, t)]) → (Instr.loadAt 100 (.pointer (some ⟨w.heap.size, 0, none⟩))).run Tryz.prog w' = .ok (.agg a.C) w' from fun w' hw => row_loadL ha (hw _ (.tail _ (.head _))))
 have FB := Lib.hid (show ∀ w', Held w' ((w.heap.size + 1, b.C, 100) :: (w.heap.size, a.C, 100) :: [(g, rowC p.l p.c ++ post, t)]) → (Instr.loadAt 100 (.pointer (some ⟨w.heap.size + 1, 0, none⟩))).run Tryz.prog w' = .ok (.agg b.C) w' from fun w' hw => row_loadL hb (hw _ (.head _)))
 have FP := Lib.hid (show ∀ w', Held w' ((w.heap.size + 1, b.C, 100) :: (w.heap.size, a.C, 100) :: [(g, rowC p.l p.c ++ post, t)]) → (Instr.loadAt 100 (.pointer (some ⟨g, 0, none⟩))).run Tryz.prog w' = .ok (.agg p.C) w' from fun w' hw => (RowA.part ⟨hp.len, post, t, hw _ (.tail _ (.tail _ (.head _)))⟩).loadL)
 clear hg ha hb hp hx hy hG hz H0
 go_enter Tryz.func108, Tryz.ntmps108
 go_wp2_with fail
 generalize ((w.alloc _).alloc _).alloc _ = w0 at *
 refine sq_gok (S := fun w' => Held w' ((w.heap.size + 1, b.C, 100) :: (w.heap.size, a.C, 100) :: [(g, rowC p.l p.c ++ post, t)])) [(true, 0), (true, 1), (true, 2), (true, 3), (true, 4), (true, 5), (false, 6), (false, 7)] HS0.out ?_
 refine sq_ldk (some 7) FA.out ?_
 refine sq_ldk (some 8) FB.out ?_
 refine sq_psk [(2, .pointer (some ⟨g, 0, none⟩)), (3, .pointer (some ⟨g, 0, none⟩)), (4, .pointer (some ⟨g, 0, none⟩))] ?_
 refine sq_ldk (some 12) FP.out ?_
 refine sq_ck (some 13) Tryz.func151 (C1.out _) ?_
 rintro e w1 ⟨r1, rfl, hr1, bw1⟩
 have HG1 := Lib.hid (HG0.out.on bw1)
 have HS1 := Lib.hid HG1.out.h
 refine ⟨_, rfl, HS1.out, ?_⟩
 refine sq_st 100 (w.heap.size + 1 + 1) (r1.C) HG1.out.out (by rw [hr1.size]; exact Tryz.infoLimb) (HZs.out.trans hr1.size.symm) (rowC_one _ _) (HS1.out.setRow HG1.out.ne) (by kernel_rfl) ?_
 have HE := Lib.hid (HG1.out.put (by omega) r1.C)
 have HR := Lib.hid hr1
 clear HG1 HS1 FA FB FP C1
 refine sq_fink { tmps := #[(.pointer (some ⟨g, 0, none⟩)), (.agg a.C), (.agg b.C), undef, (.pointer (some ⟨w.heap.size, 0, none⟩)), (.pointer (some ⟨(w.heap.size + 1), 0, none⟩)), (.pointer (some ⟨(w.heap.size + 1 + 1), 0, none⟩)), (.agg a.C), (.agg b.C), (.pointer (some ⟨g, 0, none⟩)), (.pointer (some ⟨g, 0, none⟩)), (.pointer (some ⟨g, 0, none⟩)), (.agg p.C), (.agg r1.C)], defers := [] } ?_
 refine ‹∀ a w, Code.wp _ Code.ret _ a w → _› _ _ ?_
 refine wp_ret ?_
 exact bodyPost_ret (results_cell_row Tryz.results108 _ _ (w.heap.size + 1 + 1) _ _ _ _ rfl HE.out.out Tryz.underlying100 rfl (by rw [HR.out.size]; exact Tryz.infoLimb)) rfl ⟨r1, rfl, HR.out, HE.out.b⟩
theorem difference_any {g n x y : Nat} {a b p : Rw} {w : World} (hg : RowA w g p.l p.c) (ha : a.Ok x) (hb : b.Ok y) (hp : p.Ok n) (hx : x < n) (hy : y < n) (hG : n < GB) :
  Calls Tryz.prog 106 #[.pointer (some ⟨g, 0, none⟩), .agg a.C, .agg b.C] w (RwPost ((x + n - y) % n) w) := by
 obtain ⟨_, post, t, hg⟩ := hg
 have C1 := Lib.hid (differenceR_any ha hb hp hx hy hG)
 obtain ⟨Z, hz, HZ⟩ := zero_limb
 have HZs := Lib.hid hz
 have H0 : Held w [(g, rowC p.l p.c ++ post, t)] := (Held.none w).cons hg
 have HG0 := Lib.hid (begun3 H0 a.C b.C Z 100 100 100).drew
 have HS0 := Lib.hid HG0.out.h
 have FA := Lib.hid (show ∀ w', Held w' ((w.heap.size + 1, b.C, 100) :: (w.heap.size, a.C, 100) :: [(g, rowC p.l p.c ++ post, t)]) → (Instr.loadAt 100 (.pointer (some ⟨w.heap.size, 0, none⟩))).run Tryz.prog w' = .ok (.agg a.C) w' from fun w' hw => row_loadL ha (hw _ (.tail _ (.head _))))
 have FB := Lib.hid (show ∀ w', Held w' ((w.heap.size + 1, b.C, 100) :: (w.heap.size, a.C, 100) :: [(g, rowC p.l p.c ++ post, t)]) → (Instr.loadAt 100 (.pointer (some ⟨w.heap.size + 1, 0, none⟩))).run Tryz.prog w' = .ok (.agg b.C) w' from fun w' hw => row_loadL hb (hw _ (.head _)))
 have FP := Lib.hid (show ∀ w', Held w' ((w.heap.size + 1, b.C, 100) :: (w.heap.size, a.C, 100) :: [(g, rowC p.l p.c ++ post, t)]) → (Instr.loadAt 100 (.pointer (some ⟨g, 0, none⟩))).run Tryz.prog w' = .ok (.agg p.C) w' from fun w' hw => (RowA.part ⟨hp.len, post, t, hw _ (.tail _ (.tail _ (.head _)))⟩).loadL)
 clear hg ha hb hp hx hy hG hz H0
 go_enter Tryz.func106, Tryz.ntmps106
 go_wp2_with fail
 generalize ((w.alloc _).alloc _).alloc _ = w0 at *
 refine sq_gok (S := fun w' => Held w' ((w.heap.size + 1, b.C, 100) :: (w.heap.size, a.C, 100) :: [(g, rowC p.l p.c ++ post, t)])) [(true, 0), (true, 1), (true, 2), (true, 3), (true, 4), (true, 5), (false, 6), (false, 7)] HS0.out ?_
 refine sq_ldk (some 7) FA.out ?_
 refine sq_ldk (some 8) FB.out ?_
 refine sq_psk [(2, .pointer (some ⟨g, 0, none⟩)), (3, .pointer (some ⟨g, 0, none⟩)), (4, .pointer (some ⟨g, 0, none⟩))] ?_
 refine sq_ldk (some 12) FP.out ?_
 refine sq_ck (some 13) Tryz.func149 (C1.out _) ?_
 rintro e w1 ⟨r1, rfl, hr1, bw1⟩
 have HG1 := Lib.hid (HG0.out.on bw1)
 have HS1 := Lib.hid HG1.out.h
 refine ⟨_, rfl, HS1.out, ?_⟩
 refine sq_st 100 (w.heap.size + 1 + 1) (r1.C) HG1.out.out (by rw [hr1.size]; exact Tryz.infoLimb) (HZs.out.trans hr1.size.symm) (rowC_one _ _) (HS1.out.setRow HG1.out.ne) (by kernel_rfl) ?_
 have HE := Lib.hid (HG1.out.put (by omega) r1.C)
 have HR := Lib.hid hr1
 clear HG1 HS1 FA FB FP C1
 refine sq_fink { tmps := #[(.pointer (some ⟨g, 0, none⟩)), (.agg a.C), (.agg b.C), undef, (.pointer (some ⟨w.heap.size, 0, none⟩)), (.pointer (some ⟨(w.heap.size + 1), 0, none⟩)), (.pointer (some ⟨(w.heap.size + 1 + 1), 0, none⟩)), (.agg a.C), (.agg b.C), (.pointer (some ⟨g, 0, none⟩)), (.pointer (some ⟨g, 0, none⟩)), (.pointer (some ⟨g, 0, none⟩)), (.agg p.C), (.agg r1.C)], defers := [] } ?_
 refine ‹∀ a w, Code.wp _ Code.ret _ a w → _› _ _ ?_
 refine wp_ret ?_
 exact bodyPost_ret (results_cell_row Tryz.results106 _ _ (w.heap.size + 1 + 1) _ _ _ _ rfl HE.out.out Tryz.underlying100 rfl (by rw [HR.out.size]; exact Tryz.infoLimb)) rfl ⟨r1, rfl, HR.out, HE.out.b⟩
theorem product_any {g n x y : Nat} {a b p : Rw} {w : World} (hg : RowA w g p.l p.c) (ha : a.Ok x) (hb : b.Ok y) (hp : p.Ok n) (hx : x < n) (hy : y < n) (hG : n < GB) :
  Calls Tryz.prog 107 #[.pointer (some ⟨g, 0, none⟩), .agg a.C, .agg b.C] w (RwPost (x * y % n) w) := by
 obtain ⟨_, post, t, hg⟩ := hg
 have C1 := Lib.hid (productR_any ha hb hp hx hy hG)
 obtain ⟨Z, hz, HZ⟩ := zero_limb
 have HZs := Lib.hid hz
 have H0 : Held w [(g, rowC p.l p.c ++ post, t)] := (Held.none w).cons hg
 have HG0 := Lib.hid (begun3 H0 a.C b.C Z 100 100 100).drew
 have HS0 := Lib.hid HG0.out.h
 have FA := Lib.hid (show ∀ w', Held w' ((w.heap.size + 1, b.C, 100) :: (w.heap.size, a.C, 100) :: [(g, rowC p.l p.c ++ post, t)]) → (Instr.loadAt 100 (.pointer (some ⟨w.heap.size, 0, none⟩))).run Tryz.prog w' = .ok (.agg a.C) w' from fun w' hw => row_loadL ha (hw _ (.tail _ (.head _))))
 have FB := Lib.hid (show ∀ w', Held w' ((w.heap.size + 1, b.C, 100) :: (w.heap.size, a.C, 100) :: [(g, rowC p.l p.c ++ post, t)]) → (Instr.loadAt 100 (.pointer (some ⟨w.heap.size + 1, 0, none⟩))).run Tryz.prog w' = .ok (.agg b.C) w' from fun w' hw => row_loadL hb (hw _ (.head _)))
 have FP := Lib.hid (show ∀ w', Held w' ((w.heap.size + 1, b.C, 100) :: (w.heap.size, a.C, 100) :: [(g, rowC p.l p.c ++ post, t)]) → (Instr.loadAt 100 (.pointer (some ⟨g, 0, none⟩))).run Tryz.prog w' = .ok (.agg p.C) w' from fun w' hw => (RowA.part ⟨hp.len, post, t, hw _ (.tail _ (.tail _ (.head _)))⟩).loadL)
 clear hg ha hb hp hx hy hG hz H0
 go_enter Tryz.func107, Tryz.ntmps107
 go_wp2_with fail
 generalize ((w.alloc _).alloc _).alloc _ = w0 at *
 refine sq_gok (S := fun w' => Held w' ((w.heap.size + 1, b.C, 100) :: (w.heap.size, a.C, 100) :: [(g, rowC p.l p.c ++ post, t)])) [(true, 0), (true, 1), (true, 2), (true, 3), (true, 4), (true, 5), (false, 6), (false, 7)] HS0.out ?_
 refine sq_ldk (some 7) FA.out ?_
 refine sq_ldk (some 8) FB.out ?_
 refine sq_psk [(2, .pointer (some ⟨g, 0, none⟩)), (3, .pointer (some ⟨g, 0, none⟩)), (4, .pointer (some ⟨g, 0, none⟩))] ?_
 refine sq_ldk (some 12) FP.out ?_
 refine sq_ck (some 13) Tryz.func150 (C1.out _) ?_
 rintro e w1 ⟨r1, rfl, hr1, bw1⟩
 have HG1 := Lib.hid (HG0.out.on bw1)
 have HS1 := Lib.hid HG1.out.h
 refine ⟨_, rfl, HS1.out, ?_⟩
 refine sq_st 100 (w.heap.size + 1 + 1) (r1.C) HG1.out.out (by rw [hr1.size]; exact Tryz.infoLimb) (HZs.out.trans hr1.size.symm) (rowC_one _ _) (HS1.out.setRow HG1.out.ne) (by kernel_rfl) ?_
 have HE := Lib.hid (HG1.out.put (by omega) r1.C)
 have HR := Lib.hid hr1
 clear HG1 HS1 FA FB FP C1
 refine sq_fink { tmps := #[(.pointer (some ⟨g, 0, none⟩)), (.agg a.C), (.agg b.C), undef, (.pointer (some ⟨w.heap.size, 0, none⟩)), (.pointer (some ⟨(w.heap.size + 1), 0, none⟩)), (.pointer (some ⟨(w.heap.size + 1 + 1), 0, none⟩)), (.agg a.C), (.agg b.C), (.pointer (some ⟨g, 0, none⟩)), (.pointer (some ⟨g, 0, none⟩)), (.pointer (some ⟨g, 0, none⟩)), (.agg p.C), (.agg r1.C)], defers := [] } ?_
 refine ‹∀ a w, Code.wp _ Code.ret _ a w → _› _ _ ?_
 refine wp_ret ?_
 exact bodyPost_ret (results_cell_row Tryz.results107 _ _ (w.heap.size + 1 + 1) _ _ _ _ rfl HE.out.out Tryz.underlying100 rfl (by rw [HR.out.size]; exact Tryz.infoLimb)) rfl ⟨r1, rfl, HR.out, HE.out.b⟩
theorem with_any {g n : Nat} {x y : Pn} {p a b u v : Rw} {w : World} (hg : w.heap[g]? = some (.cells (triC p a b) 104 (0, 0))) (T : Tri n x p a b) (hu : u.Ok y.1) (hv : v.Ok y.2) :
  Calls Tryz.prog 109 #[.pointer (some ⟨g, 0, none⟩), .agg u.C, .agg v.C] w (TriPost n y w) := by
 obtain ⟨Z, hz, HZ⟩ := zero_tri
 have HZs := Lib.hid hz
 have HT := Lib.hid (Tri.mk (x := y) T.hp hu hv)
 have H0 : Held w [(g, triC p a b, 104)] := (Held.none w).cons hg
 have HG0 := Lib.hid (begun3 H0 u.C v.C Z 100 100 104).drew
 have HS0 := Lib.hid HG0.out.h
 have FA := Lib.hid (show ∀ w', Held w' (((w.heap.size + 1), v.C, 100) :: (w.heap.size, u.C, 100) :: [(g, triC p a b, 104)]) → (Instr.loadAt 100 (.pointer (some ⟨w.heap.size, 0, none⟩))).run Tryz.prog w' = .ok (.agg u.C) w' from fun w' hw => row_loadL hu (hw _ (.tail _ (.head _))))
 have FB := Lib.hid (show ∀ w', Held w' (((w.heap.size + 1), v.C, 100) :: (w.heap.size, u.C, 100) :: [(g, triC p a b, 104)]) → (Instr.loadAt 100 (.pointer (some ⟨w.heap.size + 1, 0, none⟩))).run Tryz.prog w' = .ok (.agg v.C) w' from fun w' hw => row_loadL hv (hw _ (.head _)))
 have FP := Lib.hid (show ∀ w', Held w' (((w.heap.size + 1), v.C, 100) :: (w.heap.size, u.C, 100) :: [(g, triC p a b, 104)]) → (Instr.loadAt 102 (.pointer (some ⟨g, 0, none⟩))).run Tryz.prog w' = .ok (.agg p.C) w' from fun w' hw => (T.rowP (hw _ (.tail _ (.tail _ (.head _))))).part.loadM)
 clear hg T hu hv hz H0
 go_enter Tryz.func109, Tryz.ntmps109
 go_wp2_with fail
 generalize ((w.alloc _).alloc _).alloc _ = w0 at *
 refine sq_gok (S := fun w' => Held w' (((w.heap.size + 1), v.C, 100) :: (w.heap.size, u.C, 100) :: [(g, triC p a b, 104)])) [(true, 0), (true, 1), (true, 2), (true, 3), (true, 4), (true, 5), (true, 6), (false, 7)] HS0.out ?_
 refine sq_psk [(0, .pointer (some ⟨g, 0, none⟩)), (1, .pointer (some ⟨g, 0, none⟩)), (2, .pointer (some ⟨g, 0, none⟩))] ?_
 refine sq_ldk (some 10) FP.out ?_
 refine sq_ldk (some 11) FA.out ?_
 refine sq_ldk (some 12) FB.out ?_
 refine sq_pure (some 13) (.agg (triC p u v)) (by kernel_rfl) (by kernel_rfl) (held_build 104 #[(0, (.tmp 10)), (1, (.tmp 11)), (2, (.tmp 12))] (by kernel_rfl) _ (by kernel_rfl) _ (built_tri HT.out)) ?_
 refine sq_st 104 (w.heap.size + 1 + 1) (triC p u v) HG0.out.out (by rw [HT.out.size]; exact Tryz.infoTri) (HZs.out.trans HT.out.size.symm) (tri_one _ _ _) (HS0.out.setRow HG0.out.ne) (by kernel_rfl) ?_
 have HE := Lib.hid (HG0.out.put (by omega) (triC p u v))
 clear HG0 HS0
 refine sq_fink { tmps := #[(.pointer (some ⟨g, 0, none⟩)), (.agg u.C), (.agg v.C), undef, (.pointer (some ⟨w.heap.size, 0, none⟩)), (.pointer (some ⟨(w.heap.size + 1), 0, none⟩)), (.pointer (some ⟨(w.heap.size + 1 + 1), 0, none⟩)), (.pointer (some ⟨g, 0, none⟩)), (.pointer (some ⟨g, 0, none⟩)), (.pointer (some ⟨g, 0, none⟩)), (.agg p.C), (.agg u.C), (.agg v.C), (.agg (triC p u v))], defers := [] } ?_
 refine ‹∀ a w, Code.wp _ Code.ret _ a w → _› _ _ ?_
 refine wp_ret ?_
 exact bodyPost_ret (results_cell_row Tryz.results109 _ _ ((w.heap.size + 1 + 1)) _ _ _ _ rfl HE.out.out Tryz.underlying104 rfl (by rw [HT.out.size]; exact Tryz.infoTri)) rfl ⟨p, u, v, rfl, HT.out, HE.out.b⟩
theorem told_any {g n : Nat} {x : Pn} {p a b : Rw} {w : World} (hg : w.heap[g]? = some (.cells (triC p a b) 104 (0, 0))) (T : Tri n x p a b) (hx : InP2 n x) (hG : n < GB) :
  Calls Tryz.prog 71 #[.pointer (some ⟨g, 0, none⟩)] w (fun e w' => e = .returned (.agg (aggT (txtP x))) ∧ Below w.heap.size w w') := by
 have H0 : Held w [(g, triC p a b, 104)] := (Held.none w).cons hg
 have HG0 := Lib.hid (begun1 H0 #[.string ⟨#[]⟩, .string ⟨#[]⟩] 25).drew
 have HS0 := Lib.hid HG0.out.h
 have CA := Lib.hid (show ∀ w', Held w' [(g, triC p a b, 104)] → Calls Tryz.prog 110 #[.pointer (some ⟨g, 82, none⟩)] w' (fun e w'' => e = .returned (.string (gS x.1)) ∧ Below w'.heap.size w' w'') from fun w' hw => greatR_any (T.rowA (hw _ (.head _))) T.ha (Nat.lt_trans hx.1 hG))
 have CB := Lib.hid (show ∀ w', Held w' [(g, triC p a b, 104)] → Calls Tryz.prog 110 #[.pointer (some ⟨g, 164, none⟩)] w' (fun e w'' => e = .returned (.string (gS x.2)) ∧ Below w'.heap.size w' w'') from fun w' hw => greatR_any (T.rowB (hw _ (.head _))) T.hb (Nat.lt_trans hx.2 hG))
 clear hg T hx hG H0
 go_enter Tryz.func71, Tryz.ntmps71
 go_wp2_with fail
 generalize w.alloc _ = w0 at *
 refine sq_gok (S := fun w' => Held w' [(g, triC p a b, 104)]) [(true, 0), (true, 1), (true, 2), (true, 4), (true, 5), (true, 6), (false, 3), (false, 7), (true, 8), (false, 9)] HS0.out ?_
 refine sq_psk [(0, .pointer (some ⟨g, 0, none⟩)), (1, .pointer (some ⟨g, 0, none⟩)), (2, .pointer (some ⟨g, 82, none⟩)), (4, .pointer (some ⟨g, 0, none⟩)), (5, .pointer (some ⟨g, 0, none⟩)), (6, .pointer (some ⟨g, 164, none⟩))] ?_
 refine sq_ck (some 6) Tryz.func110 (CA.out _ HS0.out) ?_
 rintro e w1 ⟨rfl, bw1⟩
 have HG1 := Lib.hid (HG0.out.on bw1)
 have HS1 := Lib.hid HG1.out.h
 refine ⟨_, rfl, HS1.out, ?_⟩
 refine sq_ck (some 10) Tryz.func110 (CB.out _ HS1.out) ?_
 rintro e w2 ⟨rfl, bw2⟩
 have HG2 := Lib.hid (HG1.out.on bw2)
 have HS2 := Lib.hid HG2.out.h
 refine ⟨_, rfl, HS2.out, ?_⟩
 refine sq_pure (some 11) (.agg (aggT (txtP x))) (by kernel_rfl) (by kernel_rfl) (held_build 25 #[(0, (.tmp 6)), (1, (.tmp 10))] (by kernel_rfl) _ (by kernel_rfl) _ (built_pair (gS x.1) (gS x.2))) ?_
 refine sq_st 25 w.heap.size (aggT (txtP x)) HG2.out.out Tryz.infoP rfl (by simp [aggT, Value.oneCell']) (HS2.out.setRow HG2.out.ne) (by kernel_rfl) ?_
 have HE := Lib.hid (HG2.out.put (Nat.le_refl _) (aggT (txtP x)))
 clear HG2 HS2
 refine sq_fink { tmps := #[(.pointer (some ⟨g, 0, none⟩)), undef, (.pointer (some ⟨w.heap.size, 0, none⟩)), (.pointer (some ⟨g, 0, none⟩)), (.pointer (some ⟨g, 0, none⟩)), (.pointer (some ⟨g, 82, none⟩)), (.string (gS x.1)), (.pointer (some ⟨g, 0, none⟩)), (.pointer (some ⟨g, 0, none⟩)), (.pointer (some ⟨g, 164, none⟩)), (.string (gS x.2)), (.agg (aggT (txtP x)))], defers := [] } ?_
 refine ‹∀ a w, Code.wp _ Code.ret _ a w → _› _ _ ?_
 refine wp_ret ?_
 exact bodyPost_ret (results_cell_row Tryz.results71 _ _ w.heap.size _ _ _ _ rfl HE.out.out Tryz.underlying25 rfl Tryz.infoP) rfl ⟨rfl, HE.out.b⟩
theorem plus_any {gx gy n : Nat} {x y : Pn} {p a b p2 a2 b2 : Rw} {w : World} (hgx : w.heap[gx]? = some (.cells (triC p a b) 104 (0, 0))) (hgy : w.heap[gy]? = some (.cells (triC p2 a2 b2) 104 (0, 0))) (X : Tri n x p a b) (Y : Tri n y p2 a2 b2) (hx : InP2 n x) (hy : InP2 n y) (hG : n < GB) :
  Calls Tryz.prog 111 #[.pointer (some ⟨gx, 0, none⟩), .pointer (some ⟨gy, 0, none⟩)] w (TriPost n (addP n x y) w) := by
 obtain ⟨Z, hz, HZ⟩ := zero_tri
 have HZs := Lib.hid hz
 have HX := Lib.hid X
 have H0 : Held w [(gy, triC p2 a2 b2, 104), (gx, triC p a b, 104)] := ((Held.none w).cons hgx).cons hgy
 have HG0 := Lib.hid (begun1 H0 Z 104).drew
 have HS0 := Lib.hid HG0.out.h
 have FXA := Lib.hid (show ∀ w', Held w' [(gy, triC p2 a2 b2, 104), (gx, triC p a b, 104)] → (Instr.loadAt 100 (.pointer (some ⟨gx, 82, none⟩))).run Tryz.prog w' = .ok (.agg a.C) w' from fun w' hw => (X.rowA (hw _ (.tail _ (.head _)))).loadL)
 have FXB := Lib.hid (show ∀ w', Held w' [(gy, triC p2 a2 b2, 104), (gx, triC p a b, 104)] → (Instr.loadAt 100 (.pointer (some ⟨gx, 164, none⟩))).run Tryz.prog w' = .ok (.agg b.C) w' from fun w' hw => (X.rowB (hw _ (.tail _ (.head _)))).loadL)
 have FYA := Lib.hid (show ∀ w', Held w' [(gy, triC p2 a2 b2, 104), (gx, triC p a b, 104)] → (Instr.loadAt 100 (.pointer (some ⟨gy, 82, none⟩))).run Tryz.prog w' = .ok (.agg a2.C) w' from fun w' hw => (Y.rowA (hw _ (.head _))).loadL)
 have FYB := Lib.hid (show ∀ w', Held w' [(gy, triC p2 a2 b2, 104), (gx, triC p a b, 104)] → (Instr.loadAt 100 (.pointer (some ⟨gy, 164, none⟩))).run Tryz.prog w' = .ok (.agg b2.C) w' from fun w' hw => (Y.rowB (hw _ (.head _))).loadL)
 have C1 := Lib.hid (show ∀ w', Held w' [(gy, triC p2 a2 b2, 104), (gx, triC p a b, 104)] → Calls Tryz.prog 108 #[.pointer (some ⟨gx, 0, none⟩), .agg a.C, .agg a2.C] w' (RwPost ((x.1 + y.1) % n) w') from fun w' hw => sum_any (X.rowP (hw _ (.tail _ (.head _)))) X.ha Y.ha X.hp hx.1 hy.1 hG)
 have C2 := Lib.hid (show ∀ w', Held w' [(gy, triC p2 a2 b2, 104), (gx, triC p a b, 104)] → Calls Tryz.prog 108 #[.pointer (some ⟨gx, 0, none⟩), .agg b.C, .agg b2.C] w' (RwPost ((x.2 + y.2) % n) w') from fun w' hw => sum_any (X.rowP (hw _ (.tail _ (.head _)))) X.hb Y.hb X.hp hx.2 hy.2 hG)
 clear hgx hgy X Y hx hy hG hz H0
 go_enter Tryz.func111, Tryz.ntmps111
 go_wp2_with fail
 generalize w.alloc _ = w0 at *
 refine sq_gok (S := fun w' => Held w' [(gy, triC p2 a2 b2, 104), (gx, triC p a b, 104)]) [(true, 0), (true, 1), (true, 2), (true, 3), (true, 4), (true, 5), (true, 6), (true, 7), (true, 8), (true, 9), (true, 10), (true, 11), (true, 13), (true, 14), (true, 15), (true, 16), (true, 17), (true, 18), (true, 19), (true, 20), (true, 21), (true, 22), (true, 23), (false, 12), (false, 24), (false, 25), (false, 26)] HS0.out ?_
 refine sq_psk [(0, .pointer (some ⟨gx, 0, none⟩)), (1, .pointer (some ⟨gx, 0, none⟩)), (2, .pointer (some ⟨gx, 0, none⟩)), (3, .pointer (some ⟨gx, 0, none⟩)), (4, .pointer (some ⟨gx, 0, none⟩)), (5, .pointer (some ⟨gx, 0, none⟩)), (6, .pointer (some ⟨gx, 82, none⟩))] ?_
 refine sq_ldk (some 12) FXA.out ?_
 refine sq_psk [(8, .pointer (some ⟨gy, 0, none⟩)), (9, .pointer (some ⟨gy, 0, none⟩)), (10, .pointer (some ⟨gy, 82, none⟩))] ?_
 refine sq_ldk (some 16) FYA.out ?_
 refine sq_psk [(13, .pointer (some ⟨gx, 0, none⟩)), (14, .pointer (some ⟨gx, 0, none⟩)), (15, .pointer (some ⟨gx, 0, none⟩)), (16, .pointer (some ⟨gx, 0, none⟩)), (17, .pointer (some ⟨gx, 0, none⟩)), (18, .pointer (some ⟨gx, 164, none⟩))] ?_
 refine sq_ldk (some 24) FXB.out ?_
 refine sq_psk [(20, .pointer (some ⟨gy, 0, none⟩)), (21, .pointer (some ⟨gy, 0, none⟩)), (22, .pointer (some ⟨gy, 164, none⟩))] ?_
 refine sq_ldk (some 28) FYB.out ?_
 refine sq_ck (some 17) Tryz.func108 (C1.out _ HS0.out) ?_
 rintro e w1 ⟨r1, rfl, hr1, bw1⟩
 have HG1 := Lib.hid (HG0.out.on bw1)
 have HS1 := Lib.hid HG1.out.h
 refine ⟨_, rfl, HS1.out, ?_⟩
 refine sq_ck (some 29) Tryz.func108 (C2.out _ HS1.out) ?_
 rintro e w2 ⟨r2, rfl, hr2, bw2⟩
 have HG2 := Lib.hid (HG1.out.on bw2)
 have HS2 := Lib.hid HG2.out.h
 refine ⟨_, rfl, HS2.out, ?_⟩
 refine sq_ck (some 30) Tryz.func109 (with_any (y := addP n x y) (HS2.out _ (.tail _ (.head _))) HX.out hr1 hr2) ?_
 rintro e w3 ⟨p3, a3, b3, rfl, T3, bw3⟩
 have HG3 := Lib.hid (HG2.out.on bw3)
 have HS3 := Lib.hid HG3.out.h
 refine ⟨_, rfl, HS3.out, ?_⟩
 refine sq_st 104 w.heap.size (triC p3 a3 b3) HG3.out.out (by rw [T3.size]; exact Tryz.infoTri) (HZs.out.trans T3.size.symm) (tri_one _ _ _) (HS3.out.setRow HG3.out.ne) (by kernel_rfl) ?_
 have HE := Lib.hid (HG3.out.put (by omega) (triC p3 a3 b3))
 clear HG3 HS3
 refine sq_fink { tmps := #[(.pointer (some ⟨gx, 0, none⟩)), (.pointer (some ⟨gy, 0, none⟩)), undef, undef, (.pointer (some ⟨w.heap.size, 0, none⟩)), (.pointer (some ⟨gx, 0, none⟩)), (.pointer (some ⟨gx, 0, none⟩)), (.pointer (some ⟨gx, 0, none⟩)), (.pointer (some ⟨gx, 0, none⟩)), (.pointer (some ⟨gx, 0, none⟩)), (.pointer (some ⟨gx, 0, none⟩)), (.pointer (some ⟨gx, 82, none⟩)), (.agg a.C), (.pointer (some ⟨gy, 0, none⟩)), (.pointer (some ⟨gy, 0, none⟩)), (.pointer (some ⟨gy, 82, none⟩)), (.agg a2.C), (.agg r1.C), (.pointer (some ⟨gx, 0, none⟩)), (.pointer (some ⟨gx, 0, none⟩)), (.pointer (some ⟨gx, 0, none⟩)), (.pointer (some ⟨gx, 0, none⟩)), (.pointer (some ⟨gx, 0, none⟩)), (.pointer (some ⟨gx, 164, none⟩)), (.agg b.C), (.pointer (some ⟨gy, 0, none⟩)), (.pointer (some ⟨gy, 0, none⟩)), (.pointer (some ⟨gy, 164, none⟩)), (.agg b2.C), (.agg r2.C), (.agg (triC p3 a3 b3))], defers := [] } ?_
 refine ‹∀ a w, Code.wp _ Code.ret _ a w → _› _ _ ?_
 refine wp_ret ?_
 exact bodyPost_ret (results_cell_row Tryz.results111 _ _ (w.heap.size) _ _ _ _ rfl HE.out.out Tryz.underlying104 rfl (by rw [T3.size]; exact Tryz.infoTri)) rfl ⟨p3, a3, b3, rfl, T3, HE.out.b⟩
theorem less_any {gx gy n : Nat} {x y : Pn} {p a b p2 a2 b2 : Rw} {w : World} (hgx : w.heap[gx]? = some (.cells (triC p a b) 104 (0, 0))) (hgy : w.heap[gy]? = some (.cells (triC p2 a2 b2) 104 (0, 0))) (X : Tri n x p a b) (Y : Tri n y p2 a2 b2) (hx : InP2 n x) (hy : InP2 n y) (hG : n < GB) :
  Calls Tryz.prog 112 #[.pointer (some ⟨gx, 0, none⟩), .pointer (some ⟨gy, 0, none⟩)] w (TriPost n (subP n x y) w) := by
 obtain ⟨Z, hz, HZ⟩ := zero_tri
 have HZs := Lib.hid hz
 have HX := Lib.hid X
 have H0 : Held w [(gy, triC p2 a2 b2, 104), (gx, triC p a b, 104)] := ((Held.none w).cons hgx).cons hgy
 have HG0 := Lib.hid (begun1 H0 Z 104).drew
 have HS0 := Lib.hid HG0.out.h
 have FXA := Lib.hid (show ∀ w', Held w' [(gy, triC p2 a2 b2, 104), (gx, triC p a b, 104)] → (Instr.loadAt 100 (.pointer (some ⟨gx, 82, none⟩))).run Tryz.prog w' = .ok (.agg a.C) w' from fun w' hw => (X.rowA (hw _ (.tail _ (.head _)))).loadL)
 have FXB := Lib.hid (show ∀ w', Held w' [(gy, triC p2 a2 b2, 104), (gx, triC p a b, 104)] → (Instr.loadAt 100 (.pointer (some ⟨gx, 164, none⟩))).run Tryz.prog w' = .ok (.agg b.C) w' from fun w' hw => (X.rowB (hw _ (.tail _ (.head _)))).loadL)
 have FYA := Lib.hid (show ∀ w', Held w' [(gy, triC p2 a2 b2, 104), (gx, triC p a b, 104)] → (Instr.loadAt 100 (.pointer (some ⟨gy, 82, none⟩))).run Tryz.prog w' = .ok (.agg a2.C) w' from fun w' hw => (Y.rowA (hw _ (.head _))).loadL)
 have FYB := Lib.hid (show ∀ w', Held w' [(gy, triC p2 a2 b2, 104), (gx, triC p a b, 104)] → (Instr.loadAt 100 (.pointer (some ⟨gy, 164, none⟩))).run Tryz.prog w' = .ok (.agg b2.C) w' from fun w' hw => (Y.rowB (hw _ (.head _))).loadL)
 have C1 := Lib.hid (show ∀ w', Held w' [(gy, triC p2 a2 b2, 104), (gx, triC p a b, 104)] → Calls Tryz.prog 106 #[.pointer (some ⟨gx, 0, none⟩), .agg a.C, .agg a2.C] w' (RwPost ((x.1 + n - y.1) % n) w') from fun w' hw => difference_any (X.rowP (hw _ (.tail _ (.head _)))) X.ha Y.ha X.hp hx.1 hy.1 hG)
 have C2 := Lib.hid (show ∀ w', Held w' [(gy, triC p2 a2 b2, 104), (gx, triC p a b, 104)] → Calls Tryz.prog 106 #[.pointer (some ⟨gx, 0, none⟩), .agg b.C, .agg b2.C] w' (RwPost ((x.2 + n - y.2) % n) w') from fun w' hw => difference_any (X.rowP (hw _ (.tail _ (.head _)))) X.hb Y.hb X.hp hx.2 hy.2 hG)
 clear hgx hgy X Y hx hy hG hz H0
 go_enter Tryz.func112, Tryz.ntmps112
 go_wp2_with fail
 generalize w.alloc _ = w0 at *
 refine sq_gok (S := fun w' => Held w' [(gy, triC p2 a2 b2, 104), (gx, triC p a b, 104)]) [(true, 0), (true, 1), (true, 2), (true, 3), (true, 4), (true, 5), (true, 6), (true, 7), (true, 8), (true, 9), (true, 10), (true, 11), (true, 13), (true, 14), (true, 15), (true, 16), (true, 17), (true, 18), (true, 19), (true, 20), (true, 21), (true, 22), (true, 23), (false, 12), (false, 24), (false, 25), (false, 26)] HS0.out ?_
 refine sq_psk [(0, .pointer (some ⟨gx, 0, none⟩)), (1, .pointer (some ⟨gx, 0, none⟩)), (2, .pointer (some ⟨gx, 0, none⟩)), (3, .pointer (some ⟨gx, 0, none⟩)), (4, .pointer (some ⟨gx, 0, none⟩)), (5, .pointer (some ⟨gx, 0, none⟩)), (6, .pointer (some ⟨gx, 82, none⟩))] ?_
 refine sq_ldk (some 12) FXA.out ?_
 refine sq_psk [(8, .pointer (some ⟨gy, 0, none⟩)), (9, .pointer (some ⟨gy, 0, none⟩)), (10, .pointer (some ⟨gy, 82, none⟩))] ?_
 refine sq_ldk (some 16) FYA.out ?_
 refine sq_psk [(13, .pointer (some ⟨gx, 0, none⟩)), (14, .pointer (some ⟨gx, 0, none⟩)), (15, .pointer (some ⟨gx, 0, none⟩)), (16, .pointer (some ⟨gx, 0, none⟩)), (17, .pointer (some ⟨gx, 0, none⟩)), (18, .pointer (some ⟨gx, 164, none⟩))] ?_
 refine sq_ldk (some 24) FXB.out ?_
 refine sq_psk [(20, .pointer (some ⟨gy, 0, none⟩)), (21, .pointer (some ⟨gy, 0, none⟩)), (22, .pointer (some ⟨gy, 164, none⟩))] ?_
 refine sq_ldk (some 28) FYB.out ?_
 refine sq_ck (some 17) Tryz.func106 (C1.out _ HS0.out) ?_
 rintro e w1 ⟨r1, rfl, hr1, bw1⟩
 have HG1 := Lib.hid (HG0.out.on bw1)
 have HS1 := Lib.hid HG1.out.h
 refine ⟨_, rfl, HS1.out, ?_⟩
 refine sq_ck (some 29) Tryz.func106 (C2.out _ HS1.out) ?_
 rintro e w2 ⟨r2, rfl, hr2, bw2⟩
 have HG2 := Lib.hid (HG1.out.on bw2)
 have HS2 := Lib.hid HG2.out.h
 refine ⟨_, rfl, HS2.out, ?_⟩
 refine sq_ck (some 30) Tryz.func109 (with_any (y := subP n x y) (HS2.out _ (.tail _ (.head _))) HX.out hr1 hr2) ?_
 rintro e w3 ⟨p3, a3, b3, rfl, T3, bw3⟩
 have HG3 := Lib.hid (HG2.out.on bw3)
 have HS3 := Lib.hid HG3.out.h
 refine ⟨_, rfl, HS3.out, ?_⟩
 refine sq_st 104 w.heap.size (triC p3 a3 b3) HG3.out.out (by rw [T3.size]; exact Tryz.infoTri) (HZs.out.trans T3.size.symm) (tri_one _ _ _) (HS3.out.setRow HG3.out.ne) (by kernel_rfl) ?_
 have HE := Lib.hid (HG3.out.put (by omega) (triC p3 a3 b3))
 clear HG3 HS3
 refine sq_fink { tmps := #[(.pointer (some ⟨gx, 0, none⟩)), (.pointer (some ⟨gy, 0, none⟩)), undef, undef, (.pointer (some ⟨w.heap.size, 0, none⟩)), (.pointer (some ⟨gx, 0, none⟩)), (.pointer (some ⟨gx, 0, none⟩)), (.pointer (some ⟨gx, 0, none⟩)), (.pointer (some ⟨gx, 0, none⟩)), (.pointer (some ⟨gx, 0, none⟩)), (.pointer (some ⟨gx, 0, none⟩)), (.pointer (some ⟨gx, 82, none⟩)), (.agg a.C), (.pointer (some ⟨gy, 0, none⟩)), (.pointer (some ⟨gy, 0, none⟩)), (.pointer (some ⟨gy, 82, none⟩)), (.agg a2.C), (.agg r1.C), (.pointer (some ⟨gx, 0, none⟩)), (.pointer (some ⟨gx, 0, none⟩)), (.pointer (some ⟨gx, 0, none⟩)), (.pointer (some ⟨gx, 0, none⟩)), (.pointer (some ⟨gx, 0, none⟩)), (.pointer (some ⟨gx, 164, none⟩)), (.agg b.C), (.pointer (some ⟨gy, 0, none⟩)), (.pointer (some ⟨gy, 0, none⟩)), (.pointer (some ⟨gy, 164, none⟩)), (.agg b2.C), (.agg r2.C), (.agg (triC p3 a3 b3))], defers := [] } ?_
 refine ‹∀ a w, Code.wp _ Code.ret _ a w → _› _ _ ?_
 refine wp_ret ?_
 exact bodyPost_ret (results_cell_row Tryz.results112 _ _ (w.heap.size) _ _ _ _ rfl HE.out.out Tryz.underlying104 rfl (by rw [T3.size]; exact Tryz.infoTri)) rfl ⟨p3, a3, b3, rfl, T3, HE.out.b⟩
theorem norm_any {gx n : Nat} {x : Pn} {p a b : Rw} {w : World} (hgx : w.heap[gx]? = some (.cells (triC p a b) 104 (0, 0))) (X : Tri n x p a b) (hx : InP2 n x) (hG : n < GB) :
  Calls Tryz.prog 118 #[.pointer (some ⟨gx, 0, none⟩)] w (RwPost (normP n x) w) := by
 obtain ⟨Z, hz, HZ⟩ := zero_limb
 have HZs := Lib.hid hz
 have H0 : Held w [(gx, triC p a b, 104)] := (Held.none w).cons hgx
 have HG0 := Lib.hid (begun1 H0 Z 100).drew
 have HS0 := Lib.hid HG0.out.h
 have FXA := Lib.hid (show ∀ w', Held w' [(gx, triC p a b, 104)] → (Instr.loadAt 100 (.pointer (some ⟨gx, 82, none⟩))).run Tryz.prog w' = .ok (.agg a.C) w' from fun w' hw => (X.rowA (hw _ (.head _))).loadL)
 have FXB := Lib.hid (show ∀ w', Held w' [(gx, triC p a b, 104)] → (Instr.loadAt 100 (.pointer (some ⟨gx, 164, none⟩))).run Tryz.prog w' = .ok (.agg b.C) w' from fun w' hw => (X.rowB (hw _ (.head _))).loadL)
 have h0 : 0 < n := Nat.lt_of_le_of_lt (Nat.zero_le _) hx.1
 have C1 := Lib.hid (show ∀ w', Held w' [(gx, triC p a b, 104)] → Calls Tryz.prog 107 #[.pointer (some ⟨gx, 0, none⟩), .agg a.C, .agg a.C] w' (RwPost (x.1 * x.1 % n) w') from fun w' hw => product_any (X.rowP (hw _ (.head _))) X.ha X.ha X.hp hx.1 hx.1 hG)
 have C2 := Lib.hid (show ∀ w', Held w' [(gx, triC p a b, 104)] → Calls Tryz.prog 107 #[.pointer (some ⟨gx, 0, none⟩), .agg b.C, .agg b.C] w' (RwPost (x.2 * x.2 % n) w') from fun w' hw => product_any (X.rowP (hw _ (.head _))) X.hb X.hb X.hp hx.2 hx.2 hG)
 have C3 := Lib.hid (show ∀ (r s : Rw) (w' : World), Held w' [(gx, triC p a b, 104)] → r.Ok (x.1 * x.1 % n) → s.Ok (x.2 * x.2 % n) → Calls Tryz.prog 108 #[.pointer (some ⟨gx, 0, none⟩), .agg r.C, .agg s.C] w' (RwPost (normP n x) w') from fun r s w' hw hr hs => sum_any (X.rowP (hw _ (.head _))) hr hs X.hp (Nat.mod_lt _ h0) (Nat.mod_lt _ h0) hG)
 clear hgx X hx hG hz H0 h0
 go_enter Tryz.func118, Tryz.ntmps118
 go_wp2_with fail
 generalize w.alloc _ = w0 at *
 refine sq_gok (S := fun w' => Held w' [(gx, triC p a b, 104)]) [(true, 0), (true, 1), (true, 2), (true, 3), (true, 4), (true, 5), (true, 6), (true, 7), (true, 8), (true, 9), (true, 10), (true, 11), (true, 12), (true, 13), (true, 15), (true, 16), (true, 17), (true, 18), (true, 19), (true, 20), (true, 21), (true, 22), (true, 23), (true, 24), (true, 25), (false, 14), (false, 26), (false, 27), (false, 28)] HS0.out ?_
 refine sq_psk [(0, .pointer (some ⟨gx, 0, none⟩)), (1, .pointer (some ⟨gx, 0, none⟩)), (2, .pointer (some ⟨gx, 0, none⟩)), (3, .pointer (some ⟨gx, 0, none⟩)), (4, .pointer (some ⟨gx, 0, none⟩)), (5, .pointer (some ⟨gx, 0, none⟩)), (6, .pointer (some ⟨gx, 0, none⟩)), (7, .pointer (some ⟨gx, 0, none⟩)), (8, .pointer (some ⟨gx, 82, none⟩))] ?_
 refine sq_ldk (some 12) FXA.out ?_
 refine sq_psk [(10, .pointer (some ⟨gx, 0, none⟩)), (11, .pointer (some ⟨gx, 0, none⟩)), (12, .pointer (some ⟨gx, 82, none⟩))] ?_
 refine sq_ldk (some 16) FXA.out ?_
 refine sq_psk [(15, .pointer (some ⟨gx, 0, none⟩)), (16, .pointer (some ⟨gx, 0, none⟩)), (17, .pointer (some ⟨gx, 0, none⟩)), (18, .pointer (some ⟨gx, 0, none⟩)), (19, .pointer (some ⟨gx, 0, none⟩)), (20, .pointer (some ⟨gx, 164, none⟩))] ?_
 refine sq_ldk (some 24) FXB.out ?_
 refine sq_psk [(22, .pointer (some ⟨gx, 0, none⟩)), (23, .pointer (some ⟨gx, 0, none⟩)), (24, .pointer (some ⟨gx, 164, none⟩))] ?_
 refine sq_ldk (some 28) FXB.out ?_
 refine sq_ck (some 17) Tryz.func107 (C1.out _ HS0.out) ?_
 rintro e w1 ⟨r1, rfl, hr1, bw1⟩
 have HG1 := Lib.hid (HG0.out.on bw1)
 have HS1 := Lib.hid HG1.out.h
 refine ⟨_, rfl, HS1.out, ?_⟩
 refine sq_ck (some 29) Tryz.func107 (C2.out _ HS1.out) ?_
 rintro e w2 ⟨r2, rfl, hr2, bw2⟩
 have HG2 := Lib.hid (HG1.out.on bw2)
 have HS2 := Lib.hid HG2.out.h
 refine ⟨_, rfl, HS2.out, ?_⟩
 refine sq_ck (some 30) Tryz.func108 (C3.out _ _ _ HS2.out hr1 hr2) ?_
 rintro e w3 ⟨r3, rfl, hr3, bw3⟩
 have HG3 := Lib.hid (HG2.out.on bw3)
 have HS3 := Lib.hid HG3.out.h
 refine ⟨_, rfl, HS3.out, ?_⟩
 refine sq_st 100 w.heap.size (r3.C) HG3.out.out (by rw [hr3.size]; exact Tryz.infoLimb) (HZs.out.trans hr3.size.symm) (rowC_one _ _) (HS3.out.setRow HG3.out.ne) (by kernel_rfl) ?_
 have HE := Lib.hid (HG3.out.put (by omega) r3.C)
 have HR := Lib.hid hr3
 clear HG3 HS3
 refine sq_fink { tmps := #[(.pointer (some ⟨gx, 0, none⟩)), undef, (.pointer (some ⟨w.heap.size, 0, none⟩)), (.pointer (some ⟨gx, 0, none⟩)), (.pointer (some ⟨gx, 0, none⟩)), (.pointer (some ⟨gx, 0, none⟩)), (.pointer (some ⟨gx, 0, none⟩)), (.pointer (some ⟨gx, 0, none⟩)), (.pointer (some ⟨gx, 0, none⟩)), (.pointer (some ⟨gx, 0, none⟩)), (.pointer (some ⟨gx, 0, none⟩)), (.pointer (some ⟨gx, 82, none⟩)), (.agg a.C), (.pointer (some ⟨gx, 0, none⟩)), (.pointer (some ⟨gx, 0, none⟩)), (.pointer (some ⟨gx, 82, none⟩)), (.agg a.C), (.agg r1.C), (.pointer (some ⟨gx, 0, none⟩)), (.pointer (some ⟨gx, 0, none⟩)), (.pointer (some ⟨gx, 0, none⟩)), (.pointer (some ⟨gx, 0, none⟩)), (.pointer (some ⟨gx, 0, none⟩)), (.pointer (some ⟨gx, 164, none⟩)), (.agg b.C), (.pointer (some ⟨gx, 0, none⟩)), (.pointer (some ⟨gx, 0, none⟩)), (.pointer (some ⟨gx, 164, none⟩)), (.agg b.C), (.agg r2.C), (.agg r3.C)], defers := [] } ?_
 refine ‹∀ a w, Code.wp _ Code.ret _ a w → _› _ _ ?_
 refine wp_ret ?_
 exact bodyPost_ret (results_cell_row Tryz.results118 _ _ (w.heap.size) _ _ _ _ rfl HE.out.out Tryz.underlying100 rfl (by rw [HR.out.size]; exact Tryz.infoLimb)) rfl ⟨r3, rfl, HR.out, HE.out.b⟩
theorem pairOf_any (x : Pt) (p : ByteArray) (w : World) (s1 : x.1.size ≤ 160) (s2 : x.2.size ≤ 160) (sp : p.size ≤ 160) :
  Calls Tryz.prog 69 #[.agg (aggT x), .string p] w (TriPost (gV p) (valP x) w) := by
 obtain ⟨Z, hz, HZ⟩ := zero_tri
 have HZs := Lib.hid hz
 have HG0 := Lib.hid (begun2 (Held.none w) (aggT x) Z 25 104).drew
 have HS0 := Lib.hid HG0.out.h
 have FA := Lib.hid (show ∀ w', Held w' [(w.heap.size, aggT x, 25)] → (Instr.loadAt 9 (.pointer (some ⟨w.heap.size, 0, none⟩))).run Tryz.prog w' = .ok (.string x.1) w' from fun w' hw => str_load (agg_cells (hw _ (.head _))).1)
 have FB := Lib.hid (show ∀ w', Held w' [(w.heap.size, aggT x, 25)] → (Instr.loadAt 9 (.pointer (some ⟨w.heap.size, 1, none⟩))).run Tryz.prog w' = .ok (.string x.2) w' from fun w' hw => str_load (agg_cells (hw _ (.head _))).2)
 have C1 := Lib.hid (rowR_any p sp)
 have C2 := Lib.hid (rowR_any x.1 s1)
 have C3 := Lib.hid (rowR_any x.2 s2)
 clear s1 s2 sp hz
 go_enter Tryz.func69, Tryz.ntmps69
 go_wp2_with fail
 generalize (w.alloc _).alloc _ = w0 at *
 refine sq_gok (S := fun w' => Held w' [(w.heap.size, aggT x, 25)]) [(true, 0), (true, 3), (true, 4), (true, 6), (true, 7), (false, 1), (true, 2), (false, 5), (false, 8), (true, 9), (false, 10)] HS0.out ?_
 refine sq_psk [(0, .string p), (3, .pointer (some ⟨w.heap.size, 0, none⟩))] ?_
 refine sq_ldk (some 9) FA.out ?_
 refine sq_psk [(6, .pointer (some ⟨w.heap.size, 1, none⟩))] ?_
 refine sq_ldk (some 12) FB.out ?_
 refine sq_ck (some 6) Tryz.func105 (C1.out _) ?_
 rintro e w1 ⟨r1, rfl, hr1, bw1⟩
 have HG1 := Lib.hid (HG0.out.on bw1)
 have HS1 := Lib.hid HG1.out.h
 refine ⟨_, rfl, HS1.out, ?_⟩
 refine sq_pure (some 7) (.agg r1.C) (by kernel_rfl) (by kernel_rfl) (held_build 102 #[(0, (.tmp 6))] (by kernel_rfl) _ (by kernel_rfl) _ (built_prime hr1)) ?_
 refine sq_ck (some 10) Tryz.func105 (C2.out _) ?_
 rintro e w2 ⟨r2, rfl, hr2, bw2⟩
 have HG2 := Lib.hid (HG1.out.on bw2)
 have HS2 := Lib.hid HG2.out.h
 refine ⟨_, rfl, HS2.out, ?_⟩
 refine sq_ck (some 13) Tryz.func105 (C3.out _) ?_
 rintro e w3 ⟨r3, rfl, hr3, bw3⟩
 have T3 := Lib.hid (Tri.mk (x := valP x) hr1 hr2 hr3)
 have HG3 := Lib.hid (HG2.out.on bw3)
 have HS3 := Lib.hid HG3.out.h
 refine ⟨_, rfl, HS3.out, ?_⟩
 refine sq_pure (some 14) (.agg (triC r1 r2 r3)) (by kernel_rfl) (by kernel_rfl) (held_build 104 #[(0, (.tmp 7)), (1, (.tmp 10)), (2, (.tmp 13))] (by kernel_rfl) _ (by kernel_rfl) _ (built_tri T3.out)) ?_
 refine sq_st 104 (w.heap.size + 1) (triC r1 r2 r3) HG3.out.out (by rw [T3.out.size]; exact Tryz.infoTri) (HZs.out.trans T3.out.size.symm) (tri_one _ _ _) (HS3.out.setRow HG3.out.ne) (by kernel_rfl) ?_
 have HE := Lib.hid (HG3.out.put (by omega) (triC r1 r2 r3))
 clear HG3 HS3
 refine sq_fink { tmps := #[(.agg (aggT x)), (.string p), (.pointer (some ⟨w.heap.size, 0, none⟩)), undef, (.pointer (some ⟨(w.heap.size + 1), 0, none⟩)), (.string p), (.agg r1.C), (.agg r1.C), (.pointer (some ⟨w.heap.size, 0, none⟩)), (.string x.1), (.agg r2.C), (.pointer (some ⟨w.heap.size, 1, none⟩)), (.string x.2), (.agg r3.C), (.agg (triC r1 r2 r3))], defers := [] } ?_
 refine ‹∀ a w, Code.wp _ Code.ret _ a w → _› _ _ ?_
 refine wp_ret ?_
 exact bodyPost_ret (results_cell_row Tryz.results69 _ _ ((w.heap.size + 1)) _ _ _ _ rfl HE.out.out Tryz.underlying104 rfl (by rw [T3.out.size]; exact Tryz.infoTri)) rfl ⟨r1, r2, r3, rfl, T3.out, HE.out.b⟩
end Go.Proofs.YtdajgcgliidjbaaGreat
namespace Go.Proofs.YtdajgcgliidjbaaGreat
open Go.RowKit
def iG0 : List OpI := [⟨0, some 7, [0]⟩, ⟨1, some 8, [7]⟩, ⟨2, some 9, [8]⟩, ⟨0, some 10, [0]⟩, ⟨8, some 11, [10]⟩, ⟨16, some 12, [11]⟩, ⟨0, some 13, [0]⟩, ⟨64, some 14, [13]⟩, ⟨128, some 15, [14]⟩, ⟨256, some 16, [15]⟩, ⟨0, some 17, [1]⟩, ⟨1024, some 18, [17]⟩, ⟨2048, some 19, [18]⟩, ⟨4096, some 20, [19]⟩, ⟨8736, some 21, [12, 16, 20]⟩, ⟨0, some 22, [0]⟩, ⟨32768, some 23, [22]⟩, ⟨65536, some 24, [23]⟩, ⟨0, some 25, [0]⟩, ⟨262144, some 26, [25]⟩, ⟨524288, some 27, [26]⟩, ⟨1048576, some 28, [27]⟩, ⟨0, some 29, [1]⟩, ⟨4194304, some 30, [29]⟩, ⟨8388608, some 31, [30]⟩, ⟨16777216, some 32, [31]⟩, ⟨35799040, some 33, [24, 28, 32]⟩, ⟨67125252, some 34, [9, 21, 33]⟩, ⟨0, some 5, []⟩, ⟨536870911, none, [5, 34]⟩]
def iG1 : List OpI := [⟨0, some 35, [0]⟩, ⟨1, some 36, [35]⟩, ⟨2, some 37, [36]⟩, ⟨0, some 38, [0]⟩, ⟨8, some 39, [38]⟩, ⟨16, some 40, [39]⟩, ⟨0, some 41, [0]⟩, ⟨64, some 42, [41]⟩, ⟨128, some 43, [42]⟩, ⟨256, some 44, [43]⟩, ⟨0, some 45, [1]⟩, ⟨1024, some 46, [45]⟩, ⟨2048, some 47, [46]⟩, ⟨4096, some 48, [47]⟩, ⟨8736, some 49, [40, 44, 48]⟩, ⟨0, some 50, [0]⟩, ⟨32768, some 51, [50]⟩, ⟨65536, some 52, [51]⟩, ⟨0, some 53, [0]⟩, ⟨262144, some 54, [53]⟩, ⟨524288, some 55, [54]⟩, ⟨1048576, some 56, [55]⟩, ⟨0, some 57, [1]⟩, ⟨4194304, some 58, [57]⟩, ⟨8388608, some 59, [58]⟩, ⟨16777216, some 60, [59]⟩, ⟨35799040, some 61, [52, 56, 60]⟩, ⟨67125252, some 62, [37, 49, 61]⟩, ⟨0, some 6, []⟩, ⟨536870911, none, [6, 62]⟩]
theorem times_any {gx gy n : Nat} {x y : Pn} {p a b p2 a2 b2 : Rw} {w : World} (hgx : w.heap[gx]? = some (.cells (triC p a b) 104 (0, 0))) (hgy : w.heap[gy]? = some (.cells (triC p2 a2 b2) 104 (0, 0))) (X : Tri n x p a b) (Y : Tri n y p2 a2 b2) (hx : InP2 n x) (hy : InP2 n y) (hG : n < GB) :
  Calls Tryz.prog 70 #[.pointer (some ⟨gx, 0, none⟩), .pointer (some ⟨gy, 0, none⟩)] w (TriPost n (mulP n x y) w) := by
 obtain ⟨Z, hz, HZ⟩ := zero_tri
 have HZs := Lib.hid hz
 obtain ⟨ZL, hzl, HZL⟩ := zero_limb
 have HZLs := Lib.hid hzl
 have HX := Lib.hid X
 have HY := Lib.hid Y
 have HI := Lib.hid (show 0 < n ∧ InP2 n x ∧ InP2 n y ∧ n < GB from ⟨Nat.lt_of_le_of_lt (Nat.zero_le _) hx.1, hx, hy, hG⟩)
 have H0 : Held w [(gy, triC p2 a2 b2, 104), (gx, triC p a b, 104)] := ((Held.none w).cons hgx).cons hgy
 have HG0 := Lib.hid (begun1 H0 Z 104).drew
 have HS0 := Lib.hid HG0.out.h
 have FXA := Lib.hid (show ∀ w', Held w' [(gy, triC p2 a2 b2, 104), (gx, triC p a b, 104)] → (Instr.loadAt 100 (.pointer (some ⟨gx, 82, none⟩))).run Tryz.prog w' = .ok (.agg a.C) w' from fun w' hw => (X.rowA (hw _ (.tail _ (.head _)))).loadL)
 have FXB := Lib.hid (show ∀ w', Held w' [(gy, triC p2 a2 b2, 104), (gx, triC p a b, 104)] → (Instr.loadAt 100 (.pointer (some ⟨gx, 164, none⟩))).run Tryz.prog w' = .ok (.agg b.C) w' from fun w' hw => (X.rowB (hw _ (.tail _ (.head _)))).loadL)
 have FYA := Lib.hid (show ∀ w', Held w' [(gy, triC p2 a2 b2, 104), (gx, triC p a b, 104)] → (Instr.loadAt 100 (.pointer (some ⟨gy, 82, none⟩))).run Tryz.prog w' = .ok (.agg a2.C) w' from fun w' hw => (Y.rowA (hw _ (.head _))).loadL)
 have FYB := Lib.hid (show ∀ w', Held w' [(gy, triC p2 a2 b2, 104), (gx, triC p a b, 104)] → (Instr.loadAt 100 (.pointer (some ⟨gy, 164, none⟩))).run Tryz.prog w' = .ok (.agg b2.C) w' from fun w' hw => (Y.rowB (hw _ (.head _))).loadL)
 have C1 := Lib.hid (show ∀ w', Held w' [(gy, triC p2 a2 b2, 104), (gx, triC p a b, 104)] → Calls Tryz.prog 107 #[.pointer (some ⟨gx, 0, none⟩), .agg a.C, .agg a2.C] w' (RwPost (x.1 * y.1 % n) w') from fun w' hw => product_any (X.rowP (hw _ (.tail _ (.head _)))) X.ha Y.ha X.hp hx.1 hy.1 hG)
 have C2 := Lib.hid (show ∀ w', Held w' [(gy, triC p2 a2 b2, 104), (gx, triC p a b, 104)] → Calls Tryz.prog 107 #[.pointer (some ⟨gx, 0, none⟩), .agg b.C, .agg b2.C] w' (RwPost (x.2 * y.2 % n) w') from fun w' hw => product_any (X.rowP (hw _ (.tail _ (.head _)))) X.hb Y.hb X.hp hx.2 hy.2 hG)
 have C3 := Lib.hid (show ∀ (r s : Rw) (w' : World), Held w' [(gy, triC p2 a2 b2, 104), (gx, triC p a b, 104)] → r.Ok (x.1 * y.1 % n) → s.Ok (x.2 * y.2 % n) → Calls Tryz.prog 106 #[.pointer (some ⟨gx, 0, none⟩), .agg r.C, .agg s.C] w' (RwPost ((x.1 * y.1 % n + n - x.2 * y.2 % n) % n) w') from fun r s w' hw hr hs => difference_any (HX.out.rowP (hw _ (.tail _ (.head _)))) hr hs HX.out.hp (Nat.mod_lt _ HI.out.1) (Nat.mod_lt _ HI.out.1) HI.out.2.2.2)
 clear hgx hgy X Y hx hy hG hz hzl H0
 go_enter Tryz.func70, Tryz.ntmps70
 go_wp2_with fail
 refine Code.wp_mono (Q := fun e a' w' => e = .normal ∧ ∃ (u7 u8 u9 u10 u11 u12 u13 u14 u15 u16 u17 u18 u19 u20 u21 u22 u23 u24 u25 u26 u27 u28 u29 u30 u31 u32 u33 u34 : Value) (ga : Nat) (r : Rw), a' = { tmps := #[(.pointer (some ⟨gx, 0, none⟩)), (.pointer (some ⟨gy, 0, none⟩)), undef, undef, (.pointer (some ⟨w.heap.size, 0, none⟩)), (.pointer (some ⟨ga, 0, none⟩)), undef, u7, u8, u9, u10, u11, u12, u13, u14, u15, u16, u17, u18, u19, u20, u21, u22, u23, u24, u25, u26, u27, u28, u29, u30, u31, u32, u33, u34, undef, undef, undef, undef, undef, undef, undef, undef, undef, undef, undef, undef, undef, undef, undef, undef, undef, undef, undef, undef, undef, undef, undef, undef, undef, undef, undef, undef, undef, undef, undef, undef], defers := [] } ∧ r.Ok ((x.1 * y.1 % n + n - x.2 * y.2 % n) % n) ∧ Begun w w' ((ga, r.C, 100) :: [(gy, triC p2 a2 b2, 104), (gx, triC p a b, 104)]) w.heap.size Z 104) ?_ ?_
 rotate_left
 ·refine m_begin (S := fun w' => Held w' [(gy, triC p2 a2 b2, 104), (gx, triC p a b, 104)]) (by kernel_rfl) 30 (by kernel_rfl) ?_
  generalize World.drew (World.alloc w _) = w0 at *
  refine m_seqk (f := 5) iG0 [(true, 0), (true, 1), (true, 2), (true, 3), (true, 4), (true, 5), (true, 6), (true, 7), (true, 8), (true, 9), (true, 10), (true, 11), (true, 12), (true, 13), (true, 15), (true, 16), (true, 17), (true, 18), (true, 19), (true, 20), (true, 21), (true, 22), (true, 23), (true, 24), (true, 25)] 67092479 HS0.out ?_
  refine sq_psk [(0, .pointer (some ⟨gx, 0, none⟩)), (1, .pointer (some ⟨gx, 0, none⟩)), (2, .pointer (some ⟨gx, 0, none⟩)), (3, .pointer (some ⟨gx, 0, none⟩)), (4, .pointer (some ⟨gx, 0, none⟩)), (5, .pointer (some ⟨gx, 0, none⟩)), (6, .pointer (some ⟨gx, 0, none⟩)), (7, .pointer (some ⟨gx, 0, none⟩)), (8, .pointer (some ⟨gx, 82, none⟩))] ?_
  refine sq_ldk (some 16) FXA.out ?_
  refine sq_psk [(10, .pointer (some ⟨gy, 0, none⟩)), (11, .pointer (some ⟨gy, 0, none⟩)), (12, .pointer (some ⟨gy, 82, none⟩))] ?_
  refine sq_ldk (some 20) FYA.out ?_
  refine sq_psk [(15, .pointer (some ⟨gx, 0, none⟩)), (16, .pointer (some ⟨gx, 0, none⟩)), (17, .pointer (some ⟨gx, 0, none⟩)), (18, .pointer (some ⟨gx, 0, none⟩)), (19, .pointer (some ⟨gx, 0, none⟩)), (20, .pointer (some ⟨gx, 164, none⟩))] ?_
  refine sq_ldk (some 28) FXB.out ?_
  refine sq_psk [(22, .pointer (some ⟨gy, 0, none⟩)), (23, .pointer (some ⟨gy, 0, none⟩)), (24, .pointer (some ⟨gy, 164, none⟩))] ?_
  refine sq_ldk (some 32) FYB.out ?_
  refine sq_done ?_
  refine m_waysk (f := 4) iG0 [14, 28] ?_
  intro i hi
  rcases (by simpa using hi : i = 14 ∨ i = 28) with rfl | rfl
  ·refine sq_ck (some 21) Tryz.func107 (C1.out _ HS0.out) ?_
   rintro e w1 ⟨r1, rfl, hr1, bw1⟩
   have HG1 := Lib.hid (HG0.out.on bw1)
   have HS1 := Lib.hid HG1.out.h
   refine ⟨_, rfl, HS1.out, ?_⟩
   refine sq_done ?_
   refine m_maskk (M' := 67108863) ?_
   refine m_waysk (f := 3) iG0 [26, 28] ?_
   intro i hi
   rcases (by simpa using hi : i = 26 ∨ i = 28) with rfl | rfl
   ·refine sq_ck (some 33) Tryz.func107 (C2.out _ HS1.out) ?_
    rintro e w2 ⟨r2, rfl, hr2, bw2⟩
    have HG2 := Lib.hid (HG1.out.on bw2)
    have HS2 := Lib.hid HG2.out.h
    refine ⟨_, rfl, HS2.out, ?_⟩
    refine sq_done ?_
    refine m_maskk (M' := 134217727) ?_
    refine m_waysk (f := 2) iG0 [27, 28] ?_
    intro i hi
    rcases (by simpa using hi : i = 27 ∨ i = 28) with rfl | rfl
    ·refine sq_ck (some 34) Tryz.func106 (C3.out _ _ _ HS2.out hr1 hr2) ?_
     rintro e w3 ⟨r3, rfl, hr3, bw3⟩
     have HG3 := Lib.hid (HG2.out.on bw3)
     have HS3 := Lib.hid HG3.out.h
     refine ⟨_, rfl, HS3.out, ?_⟩
     refine sq_done ?_
     refine m_maskk (M' := 268435455) ?_
     refine m_seqk (f := 0) iG0 [(false, 28), (false, 29)] 1073741823 HS3.out ?_
     have HG4 := Lib.hid (HG3.out.new ZL 100)
     have HN := Lib.hid HG3.out.h.apart
     have HLe := Lib.hid HG3.out.b.size
     have HS4 := Lib.hid HG4.out.h.tail
     refine sq_allock (some 5) 100 ZL (HZL _) HS4.out ?_
     generalize w3.alloc (.cells ZL 100) = w4 at *
     refine sq_st 100 w3.heap.size r3.C (HG4.out.h _ (.head _)) (by rw [hr3.size]; exact Tryz.infoLimb) (HZLs.out.trans hr3.size.symm) (rowC_one _ _) (HS4.out.setRow HN.out) (by kernel_rfl) ?_
     refine sq_done ?_
     refine m_donek iG0 { tmps := #[(.pointer (some ⟨gx, 0, none⟩)), (.pointer (some ⟨gy, 0, none⟩)), undef, undef, (.pointer (some ⟨w.heap.size, 0, none⟩)), (.pointer (some ⟨w3.heap.size, 0, none⟩)), undef, (.pointer (some ⟨gx, 0, none⟩)), (.pointer (some ⟨gx, 0, none⟩)), (.pointer (some ⟨gx, 0, none⟩)), (.pointer (some ⟨gx, 0, none⟩)), (.pointer (some ⟨gx, 0, none⟩)), (.pointer (some ⟨gx, 0, none⟩)), (.pointer (some ⟨gx, 0, none⟩)), (.pointer (some ⟨gx, 0, none⟩)), (.pointer (some ⟨gx, 82, none⟩)), (.agg a.C), (.pointer (some ⟨gy, 0, none⟩)), (.pointer (some ⟨gy, 0, none⟩)), (.pointer (some ⟨gy, 82, none⟩)), (.agg a2.C), (.agg r1.C), (.pointer (some ⟨gx, 0, none⟩)), (.pointer (some ⟨gx, 0, none⟩)), (.pointer (some ⟨gx, 0, none⟩)), (.pointer (some ⟨gx, 0, none⟩)), (.pointer (some ⟨gx, 0, none⟩)), (.pointer (some ⟨gx, 164, none⟩)), (.agg b.C), (.pointer (some ⟨gy, 0, none⟩)), (.pointer (some ⟨gy, 0, none⟩)), (.pointer (some ⟨gy, 164, none⟩)), (.agg b2.C), (.agg r2.C), (.agg r3.C), undef, undef, undef, undef, undef, undef, undef, undef, undef, undef, undef, undef, undef, undef, undef, undef, undef, undef, undef, undef, undef, undef, undef, undef, undef, undef, undef, undef, undef, undef, undef, undef], defers := [] } ?_
     exact ⟨rfl, _, _, _, _, _, _, _, _, _, _, _, _, _, _, _, _, _, _, _, _, _, _, _, _, _, _, _, _, w3.heap.size, r3, rfl, hr3, HG4.out.putAt HLe.out HN.out r3.C⟩
    ·have HG3 := Lib.hid (HG2.out.new ZL 100)
     have HN := Lib.hid HG2.out.h.apart
     have HLe := Lib.hid HG2.out.b.size
     have HS3 := Lib.hid HG3.out.h.tail
     refine sq_allock (some 5) 100 ZL (HZL _) HS3.out ?_
     generalize w2.alloc (.cells ZL 100) = w3 at *
     refine sq_done ?_
     refine m_maskk (M' := 402653183) ?_
     refine m_seqk (f := 0) iG0 [(false, 27), (false, 29)] 1073741823 HS3.out ?_
     refine sq_ck (some 34) Tryz.func106 (C3.out _ _ _ HS3.out hr1 hr2) ?_
     rintro e w4 ⟨r3, rfl, hr3, bw4⟩
     have HG4 := Lib.hid (HG3.out.on bw4)
     have HS4 := Lib.hid HG4.out.h.tail
     refine ⟨_, rfl, HS4.out, ?_⟩
     refine sq_st 100 w2.heap.size r3.C (HG4.out.h _ (.head _)) (by rw [hr3.size]; exact Tryz.infoLimb) (HZLs.out.trans hr3.size.symm) (rowC_one _ _) (HS4.out.setRow HN.out) (by kernel_rfl) ?_
     refine sq_done ?_
     refine m_donek iG0 { tmps := #[(.pointer (some ⟨gx, 0, none⟩)), (.pointer (some ⟨gy, 0, none⟩)), undef, undef, (.pointer (some ⟨w.heap.size, 0, none⟩)), (.pointer (some ⟨w2.heap.size, 0, none⟩)), undef, (.pointer (some ⟨gx, 0, none⟩)), (.pointer (some ⟨gx, 0, none⟩)), (.pointer (some ⟨gx, 0, none⟩)), (.pointer (some ⟨gx, 0, none⟩)), (.pointer (some ⟨gx, 0, none⟩)), (.pointer (some ⟨gx, 0, none⟩)), (.pointer (some ⟨gx, 0, none⟩)), (.pointer (some ⟨gx, 0, none⟩)), (.pointer (some ⟨gx, 82, none⟩)), (.agg a.C), (.pointer (some ⟨gy, 0, none⟩)), (.pointer (some ⟨gy, 0, none⟩)), (.pointer (some ⟨gy, 82, none⟩)), (.agg a2.C), (.agg r1.C), (.pointer (some ⟨gx, 0, none⟩)), (.pointer (some ⟨gx, 0, none⟩)), (.pointer (some ⟨gx, 0, none⟩)), (.pointer (some ⟨gx, 0, none⟩)), (.pointer (some ⟨gx, 0, none⟩)), (.pointer (some ⟨gx, 164, none⟩)), (.agg b.C), (.pointer (some ⟨gy, 0, none⟩)), (.pointer (some ⟨gy, 0, none⟩)), (.pointer (some ⟨gy, 164, none⟩)), (.agg b2.C), (.agg r2.C), (.agg r3.C), undef, undef, undef, undef, undef, undef, undef, undef, undef, undef, undef, undef, undef, undef, undef, undef, undef, undef, undef, undef, undef, undef, undef, undef, undef, undef, undef, undef, undef, undef, undef, undef], defers := [] } ?_
     exact ⟨rfl, _, _, _, _, _, _, _, _, _, _, _, _, _, _, _, _, _, _, _, _, _, _, _, _, _, _, _, _, w2.heap.size, r3, rfl, hr3, HG4.out.putAt HLe.out HN.out r3.C⟩
   ·have HG2 := Lib.hid (HG1.out.new ZL 100)
    have HN := Lib.hid HG1.out.h.apart
    have HLe := Lib.hid HG1.out.b.size
    have HS2 := Lib.hid HG2.out.h.tail
    refine sq_allock (some 5) 100 ZL (HZL _) HS2.out ?_
    generalize w1.alloc (.cells ZL 100) = w2 at *
    refine sq_done ?_
    refine m_maskk (M' := 335544319) ?_
    refine m_seqk (f := 0) iG0 [(false, 26), (false, 27), (false, 29)] 1073741823 HS2.out ?_
    refine sq_ck (some 33) Tryz.func107 (C2.out _ HS2.out) ?_
    rintro e w3 ⟨r2, rfl, hr2, bw3⟩
    have HG3 := Lib.hid (HG2.out.on bw3)
    have HS3 := Lib.hid HG3.out.h.tail
    refine ⟨_, rfl, HS3.out, ?_⟩
    refine sq_ck (some 34) Tryz.func106 (C3.out _ _ _ HS3.out hr1 hr2) ?_
    rintro e w4 ⟨r3, rfl, hr3, bw4⟩
    have HG4 := Lib.hid (HG3.out.on bw4)
    have HS4 := Lib.hid HG4.out.h.tail
    refine ⟨_, rfl, HS4.out, ?_⟩
    refine sq_st 100 w1.heap.size r3.C (HG4.out.h _ (.head _)) (by rw [hr3.size]; exact Tryz.infoLimb) (HZLs.out.trans hr3.size.symm) (rowC_one _ _) (HS4.out.setRow HN.out) (by kernel_rfl) ?_
    refine sq_done ?_
    refine m_donek iG0 { tmps := #[(.pointer (some ⟨gx, 0, none⟩)), (.pointer (some ⟨gy, 0, none⟩)), undef, undef, (.pointer (some ⟨w.heap.size, 0, none⟩)), (.pointer (some ⟨w1.heap.size, 0, none⟩)), undef, (.pointer (some ⟨gx, 0, none⟩)), (.pointer (some ⟨gx, 0, none⟩)), (.pointer (some ⟨gx, 0, none⟩)), (.pointer (some ⟨gx, 0, none⟩)), (.pointer (some ⟨gx, 0, none⟩)), (.pointer (some ⟨gx, 0, none⟩)), (.pointer (some ⟨gx, 0, none⟩)), (.pointer (some ⟨gx, 0, none⟩)), (.pointer (some ⟨gx, 82, none⟩)), (.agg a.C), (.pointer (some ⟨gy, 0, none⟩)), (.pointer (some ⟨gy, 0, none⟩)), (.pointer (some ⟨gy, 82, none⟩)), (.agg a2.C), (.agg r1.C), (.pointer (some ⟨gx, 0, none⟩)), (.pointer (some ⟨gx, 0, none⟩)), (.pointer (some ⟨gx, 0, none⟩)), (.pointer (some ⟨gx, 0, none⟩)), (.pointer (some ⟨gx, 0, none⟩)), (.pointer (some ⟨gx, 164, none⟩)), (.agg b.C), (.pointer (some ⟨gy, 0, none⟩)), (.pointer (some ⟨gy, 0, none⟩)), (.pointer (some ⟨gy, 164, none⟩)), (.agg b2.C), (.agg r2.C), (.agg r3.C), undef, undef, undef, undef, undef, undef, undef, undef, undef, undef, undef, undef, undef, undef, undef, undef, undef, undef, undef, undef, undef, undef, undef, undef, undef, undef, undef, undef, undef, undef, undef, undef], defers := [] } ?_
    exact ⟨rfl, _, _, _, _, _, _, _, _, _, _, _, _, _, _, _, _, _, _, _, _, _, _, _, _, _, _, _, _, w1.heap.size, r3, rfl, hr3, HG4.out.putAt HLe.out HN.out r3.C⟩
  ·have HG1 := Lib.hid (HG0.out.new ZL 100)
   have HN := Lib.hid HG0.out.h.apart
   have HLe := Lib.hid HG0.out.b.size
   have HS1 := Lib.hid HG1.out.h.tail
   refine sq_allock (some 5) 100 ZL (HZL _) HS1.out ?_
   generalize w0.alloc (.cells ZL 100) = w1 at *
   refine sq_done ?_
   refine m_maskk (M' := 335527935) ?_
   refine m_seqk (f := 0) iG0 [(false, 14), (false, 26), (false, 27), (false, 29)] 1073741823 HS1.out ?_
   refine sq_ck (some 21) Tryz.func107 (C1.out _ HS1.out) ?_
   rintro e w2 ⟨r1, rfl, hr1, bw2⟩
   have HG2 := Lib.hid (HG1.out.on bw2)
   have HS2 := Lib.hid HG2.out.h.tail
   refine ⟨_, rfl, HS2.out, ?_⟩
   refine sq_ck (some 33) Tryz.func107 (C2.out _ HS2.out) ?_
   rintro e w3 ⟨r2, rfl, hr2, bw3⟩
   have HG3 := Lib.hid (HG2.out.on bw3)
   have HS3 := Lib.hid HG3.out.h.tail
   refine ⟨_, rfl, HS3.out, ?_⟩
   refine sq_ck (some 34) Tryz.func106 (C3.out _ _ _ HS3.out hr1 hr2) ?_
   rintro e w4 ⟨r3, rfl, hr3, bw4⟩
   have HG4 := Lib.hid (HG3.out.on bw4)
   have HS4 := Lib.hid HG4.out.h.tail
   refine ⟨_, rfl, HS4.out, ?_⟩
   refine sq_st 100 w0.heap.size r3.C (HG4.out.h _ (.head _)) (by rw [hr3.size]; exact Tryz.infoLimb) (HZLs.out.trans hr3.size.symm) (rowC_one _ _) (HS4.out.setRow HN.out) (by kernel_rfl) ?_
   refine sq_done ?_
   refine m_donek iG0 { tmps := #[(.pointer (some ⟨gx, 0, none⟩)), (.pointer (some ⟨gy, 0, none⟩)), undef, undef, (.pointer (some ⟨w.heap.size, 0, none⟩)), (.pointer (some ⟨w0.heap.size, 0, none⟩)), undef, (.pointer (some ⟨gx, 0, none⟩)), (.pointer (some ⟨gx, 0, none⟩)), (.pointer (some ⟨gx, 0, none⟩)), (.pointer (some ⟨gx, 0, none⟩)), (.pointer (some ⟨gx, 0, none⟩)), (.pointer (some ⟨gx, 0, none⟩)), (.pointer (some ⟨gx, 0, none⟩)), (.pointer (some ⟨gx, 0, none⟩)), (.pointer (some ⟨gx, 82, none⟩)), (.agg a.C), (.pointer (some ⟨gy, 0, none⟩)), (.pointer (some ⟨gy, 0, none⟩)), (.pointer (some ⟨gy, 82, none⟩)), (.agg a2.C), (.agg r1.C), (.pointer (some ⟨gx, 0, none⟩)), (.pointer (some ⟨gx, 0, none⟩)), (.pointer (some ⟨gx, 0, none⟩)), (.pointer (some ⟨gx, 0, none⟩)), (.pointer (some ⟨gx, 0, none⟩)), (.pointer (some ⟨gx, 164, none⟩)), (.agg b.C), (.pointer (some ⟨gy, 0, none⟩)), (.pointer (some ⟨gy, 0, none⟩)), (.pointer (some ⟨gy, 164, none⟩)), (.agg b2.C), (.agg r2.C), (.agg r3.C), undef, undef, undef, undef, undef, undef, undef, undef, undef, undef, undef, undef, undef, undef, undef, undef, undef, undef, undef, undef, undef, undef, undef, undef, undef, undef, undef, undef, undef, undef, undef, undef], defers := [] } ?_
   exact ⟨rfl, _, _, _, _, _, _, _, _, _, _, _, _, _, _, _, _, _, _, _, _, _, _, _, _, _, _, _, _, w0.heap.size, r3, rfl, hr3, HG4.out.putAt HLe.out HN.out r3.C⟩
 clear C1 C2 C3 FXA FXB FYA FYB HG0 HS0
 rintro e a w1 ⟨rfl, u7, u8, u9, u10, u11, u12, u13, u14, u15, u16, u17, u18, u19, u20, u21, u22, u23, u24, u25, u26, u27, u28, u29, u30, u31, u32, u33, u34, ga, ra, rfl, hra, hg1⟩
 have HRA := Lib.hid hra
 have HG0 := Lib.hid hg1.drew
 have HS0 := Lib.hid HG0.out.h
 clear hra hg1
 have FXA := Lib.hid (show ∀ w', Held w' ((ga, ra.C, 100) :: [(gy, triC p2 a2 b2, 104), (gx, triC p a b, 104)]) → (Instr.loadAt 100 (.pointer (some ⟨gx, 82, none⟩))).run Tryz.prog w' = .ok (.agg a.C) w' from fun w' hw => (HX.out.rowA (hw _ (.tail _ (.tail _ (.head _))))).loadL)
 have FXB := Lib.hid (show ∀ w', Held w' ((ga, ra.C, 100) :: [(gy, triC p2 a2 b2, 104), (gx, triC p a b, 104)]) → (Instr.loadAt 100 (.pointer (some ⟨gx, 164, none⟩))).run Tryz.prog w' = .ok (.agg b.C) w' from fun w' hw => (HX.out.rowB (hw _ (.tail _ (.tail _ (.head _))))).loadL)
 have FYA := Lib.hid (show ∀ w', Held w' ((ga, ra.C, 100) :: [(gy, triC p2 a2 b2, 104), (gx, triC p a b, 104)]) → (Instr.loadAt 100 (.pointer (some ⟨gy, 82, none⟩))).run Tryz.prog w' = .ok (.agg a2.C) w' from fun w' hw => (HY.out.rowA (hw _ (.tail _ (.head _)))).loadL)
 have FYB := Lib.hid (show ∀ w', Held w' ((ga, ra.C, 100) :: [(gy, triC p2 a2 b2, 104), (gx, triC p a b, 104)]) → (Instr.loadAt 100 (.pointer (some ⟨gy, 164, none⟩))).run Tryz.prog w' = .ok (.agg b2.C) w' from fun w' hw => (HY.out.rowB (hw _ (.tail _ (.head _)))).loadL)
 have C1 := Lib.hid (show ∀ w', Held w' ((ga, ra.C, 100) :: [(gy, triC p2 a2 b2, 104), (gx, triC p a b, 104)]) → Calls Tryz.prog 107 #[.pointer (some ⟨gx, 0, none⟩), .agg a.C, .agg b2.C] w' (RwPost (x.1 * y.2 % n) w') from fun w' hw => product_any (HX.out.rowP (hw _ (.tail _ (.tail _ (.head _))))) HX.out.ha HY.out.hb HX.out.hp HI.out.2.1.1 HI.out.2.2.1.2 HI.out.2.2.2)
 have C2 := Lib.hid (show ∀ w', Held w' ((ga, ra.C, 100) :: [(gy, triC p2 a2 b2, 104), (gx, triC p a b, 104)]) → Calls Tryz.prog 107 #[.pointer (some ⟨gx, 0, none⟩), .agg b.C, .agg a2.C] w' (RwPost (x.2 * y.1 % n) w') from fun w' hw => product_any (HX.out.rowP (hw _ (.tail _ (.tail _ (.head _))))) HX.out.hb HY.out.ha HX.out.hp HI.out.2.1.2 HI.out.2.2.1.1 HI.out.2.2.2)
 have C3 := Lib.hid (show ∀ (r s : Rw) (w' : World), Held w' ((ga, ra.C, 100) :: [(gy, triC p2 a2 b2, 104), (gx, triC p a b, 104)]) → r.Ok (x.1 * y.2 % n) → s.Ok (x.2 * y.1 % n) → Calls Tryz.prog 108 #[.pointer (some ⟨gx, 0, none⟩), .agg r.C, .agg s.C] w' (RwPost ((x.1 * y.2 % n + x.2 * y.1 % n) % n) w') from fun r s w' hw hr hs => sum_any (HX.out.rowP (hw _ (.tail _ (.tail _ (.head _))))) hr hs HX.out.hp (Nat.mod_lt _ HI.out.1) (Nat.mod_lt _ HI.out.1) HI.out.2.2.2)
 refine ‹∀ a w, Code.wp _ _ _ a w → _› _ _ ?_
 go_step
 refine Code.wp_mono (Q := fun e a' w' => e = .normal ∧ ∃ (u7 u8 u9 u10 u11 u12 u13 u14 u15 u16 u17 u18 u19 u20 u21 u22 u23 u24 u25 u26 u27 u28 u29 u30 u31 u32 u33 u34 u35 u36 u37 u38 u39 u40 u41 u42 u43 u44 u45 u46 u47 u48 u49 u50 u51 u52 u53 u54 u55 u56 u57 u58 u59 u60 u61 u62 : Value) (gb : Nat) (s : Rw), a' = { tmps := #[(.pointer (some ⟨gx, 0, none⟩)), (.pointer (some ⟨gy, 0, none⟩)), undef, undef, (.pointer (some ⟨w.heap.size, 0, none⟩)), (.pointer (some ⟨ga, 0, none⟩)), (.pointer (some ⟨gb, 0, none⟩)), u7, u8, u9, u10, u11, u12, u13, u14, u15, u16, u17, u18, u19, u20, u21, u22, u23, u24, u25, u26, u27, u28, u29, u30, u31, u32, u33, u34, u35, u36, u37, u38, u39, u40, u41, u42, u43, u44, u45, u46, u47, u48, u49, u50, u51, u52, u53, u54, u55, u56, u57, u58, u59, u60, u61, u62, undef, undef, undef, undef], defers := [] } ∧ s.Ok ((x.1 * y.2 % n + x.2 * y.1 % n) % n) ∧ Begun w w' ((gb, s.C, 100) :: (ga, ra.C, 100) :: [(gy, triC p2 a2 b2, 104), (gx, triC p a b, 104)]) w.heap.size Z 104) ?_ ?_
 rotate_left
 ·refine m_begin (S := fun w' => Held w' ((ga, ra.C, 100) :: [(gy, triC p2 a2 b2, 104), (gx, triC p a b, 104)])) (by kernel_rfl) 30 (by kernel_rfl) ?_
  generalize World.drew (w1) = w0 at *
  refine m_seqk (f := 5) iG1 [(true, 0), (true, 1), (true, 2), (true, 3), (true, 4), (true, 5), (true, 6), (true, 7), (true, 8), (true, 9), (true, 10), (true, 11), (true, 12), (true, 13), (true, 15), (true, 16), (true, 17), (true, 18), (true, 19), (true, 20), (true, 21), (true, 22), (true, 23), (true, 24), (true, 25)] 67092479 HS0.out ?_
  refine sq_psk [(0, .pointer (some ⟨gx, 0, none⟩)), (1, .pointer (some ⟨gx, 0, none⟩)), (2, .pointer (some ⟨gx, 0, none⟩)), (3, .pointer (some ⟨gx, 0, none⟩)), (4, .pointer (some ⟨gx, 0, none⟩)), (5, .pointer (some ⟨gx, 0, none⟩)), (6, .pointer (some ⟨gx, 0, none⟩)), (7, .pointer (some ⟨gx, 0, none⟩)), (8, .pointer (some ⟨gx, 82, none⟩))] ?_
  refine sq_ldk (some 44) FXA.out ?_
  refine sq_psk [(10, .pointer (some ⟨gy, 0, none⟩)), (11, .pointer (some ⟨gy, 0, none⟩)), (12, .pointer (some ⟨gy, 164, none⟩))] ?_
  refine sq_ldk (some 48) FYB.out ?_
  refine sq_psk [(15, .pointer (some ⟨gx, 0, none⟩)), (16, .pointer (some ⟨gx, 0, none⟩)), (17, .pointer (some ⟨gx, 0, none⟩)), (18, .pointer (some ⟨gx, 0, none⟩)), (19, .pointer (some ⟨gx, 0, none⟩)), (20, .pointer (some ⟨gx, 164, none⟩))] ?_
  refine sq_ldk (some 56) FXB.out ?_
  refine sq_psk [(22, .pointer (some ⟨gy, 0, none⟩)), (23, .pointer (some ⟨gy, 0, none⟩)), (24, .pointer (some ⟨gy, 82, none⟩))] ?_
  refine sq_ldk (some 60) FYA.out ?_
  refine sq_done ?_
  refine m_waysk (f := 4) iG1 [14, 28] ?_
  intro i hi
  rcases (by simpa using hi : i = 14 ∨ i = 28) with rfl | rfl
  ·refine sq_ck (some 49) Tryz.func107 (C1.out _ HS0.out) ?_
   rintro e w1 ⟨r1, rfl, hr1, bw1⟩
   have HG1 := Lib.hid (HG0.out.on bw1)
   have HS1 := Lib.hid HG1.out.h
   refine ⟨_, rfl, HS1.out, ?_⟩
   refine sq_done ?_
   refine m_maskk (M' := 67108863) ?_
   refine m_waysk (f := 3) iG1 [26, 28] ?_
   intro i hi
   rcases (by simpa using hi : i = 26 ∨ i = 28) with rfl | rfl
   ·refine sq_ck (some 61) Tryz.func107 (C2.out _ HS1.out) ?_
    rintro e w2 ⟨r2, rfl, hr2, bw2⟩
    have HG2 := Lib.hid (HG1.out.on bw2)
    have HS2 := Lib.hid HG2.out.h
    refine ⟨_, rfl, HS2.out, ?_⟩
    refine sq_done ?_
    refine m_maskk (M' := 134217727) ?_
    refine m_waysk (f := 2) iG1 [27, 28] ?_
    intro i hi
    rcases (by simpa using hi : i = 27 ∨ i = 28) with rfl | rfl
    ·refine sq_ck (some 62) Tryz.func108 (C3.out _ _ _ HS2.out hr1 hr2) ?_
     rintro e w3 ⟨r3, rfl, hr3, bw3⟩
     have HG3 := Lib.hid (HG2.out.on bw3)
     have HS3 := Lib.hid HG3.out.h
     refine ⟨_, rfl, HS3.out, ?_⟩
     refine sq_done ?_
     refine m_maskk (M' := 268435455) ?_
     refine m_seqk (f := 0) iG1 [(false, 28), (false, 29)] 1073741823 HS3.out ?_
     have HG4 := Lib.hid (HG3.out.new ZL 100)
     have HN := Lib.hid HG3.out.h.apart
     have HLe := Lib.hid HG3.out.b.size
     have HS4 := Lib.hid HG4.out.h.tail
     refine sq_allock (some 6) 100 ZL (HZL _) HS4.out ?_
     generalize w3.alloc (.cells ZL 100) = w4 at *
     refine sq_st 100 w3.heap.size r3.C (HG4.out.h _ (.head _)) (by rw [hr3.size]; exact Tryz.infoLimb) (HZLs.out.trans hr3.size.symm) (rowC_one _ _) (HS4.out.setRow HN.out) (by kernel_rfl) ?_
     refine sq_done ?_
     refine m_donek iG1 { tmps := #[(.pointer (some ⟨gx, 0, none⟩)), (.pointer (some ⟨gy, 0, none⟩)), undef, undef, (.pointer (some ⟨w.heap.size, 0, none⟩)), (.pointer (some ⟨ga, 0, none⟩)), (.pointer (some ⟨w3.heap.size, 0, none⟩)), u7, u8, u9, u10, u11, u12, u13, u14, u15, u16, u17, u18, u19, u20, u21, u22, u23, u24, u25, u26, u27, u28, u29, u30, u31, u32, u33, u34, (.pointer (some ⟨gx, 0, none⟩)), (.pointer (some ⟨gx, 0, none⟩)), (.pointer (some ⟨gx, 0, none⟩)), (.pointer (some ⟨gx, 0, none⟩)), (.pointer (some ⟨gx, 0, none⟩)), (.pointer (some ⟨gx, 0, none⟩)), (.pointer (some ⟨gx, 0, none⟩)), (.pointer (some ⟨gx, 0, none⟩)), (.pointer (some ⟨gx, 82, none⟩)), (.agg a.C), (.pointer (some ⟨gy, 0, none⟩)), (.pointer (some ⟨gy, 0, none⟩)), (.pointer (some ⟨gy, 164, none⟩)), (.agg b2.C), (.agg r1.C), (.pointer (some ⟨gx, 0, none⟩)), (.pointer (some ⟨gx, 0, none⟩)), (.pointer (some ⟨gx, 0, none⟩)), (.pointer (some ⟨gx, 0, none⟩)), (.pointer (some ⟨gx, 0, none⟩)), (.pointer (some ⟨gx, 164, none⟩)), (.agg b.C), (.pointer (some ⟨gy, 0, none⟩)), (.pointer (some ⟨gy, 0, none⟩)), (.pointer (some ⟨gy, 82, none⟩)), (.agg a2.C), (.agg r2.C), (.agg r3.C), undef, undef, undef, undef], defers := [] } ?_
     exact ⟨rfl, _, _, _, _, _, _, _, _, _, _, _, _, _, _, _, _, _, _, _, _, _, _, _, _, _, _, _, _, _, _, _, _, _, _, _, _, _, _, _, _, _, _, _, _, _, _, _, _, _, _, _, _, _, _, _, _, w3.heap.size, r3, rfl, hr3, HG4.out.putAt HLe.out HN.out r3.C⟩
    ·have HG3 := Lib.hid (HG2.out.new ZL 100)
     have HN := Lib.hid HG2.out.h.apart
     have HLe := Lib.hid HG2.out.b.size
     have HS3 := Lib.hid HG3.out.h.tail
     refine sq_allock (some 6) 100 ZL (HZL _) HS3.out ?_
     generalize w2.alloc (.cells ZL 100) = w3 at *
     refine sq_done ?_
     refine m_maskk (M' := 402653183) ?_
     refine m_seqk (f := 0) iG1 [(false, 27), (false, 29)] 1073741823 HS3.out ?_
     refine sq_ck (some 62) Tryz.func108 (C3.out _ _ _ HS3.out hr1 hr2) ?_
     rintro e w4 ⟨r3, rfl, hr3, bw4⟩
     have HG4 := Lib.hid (HG3.out.on bw4)
     have HS4 := Lib.hid HG4.out.h.tail
     refine ⟨_, rfl, HS4.out, ?_⟩
     refine sq_st 100 w2.heap.size r3.C (HG4.out.h _ (.head _)) (by rw [hr3.size]; exact Tryz.infoLimb) (HZLs.out.trans hr3.size.symm) (rowC_one _ _) (HS4.out.setRow HN.out) (by kernel_rfl) ?_
     refine sq_done ?_
     refine m_donek iG1 { tmps := #[(.pointer (some ⟨gx, 0, none⟩)), (.pointer (some ⟨gy, 0, none⟩)), undef, undef, (.pointer (some ⟨w.heap.size, 0, none⟩)), (.pointer (some ⟨ga, 0, none⟩)), (.pointer (some ⟨w2.heap.size, 0, none⟩)), u7, u8, u9, u10, u11, u12, u13, u14, u15, u16, u17, u18, u19, u20, u21, u22, u23, u24, u25, u26, u27, u28, u29, u30, u31, u32, u33, u34, (.pointer (some ⟨gx, 0, none⟩)), (.pointer (some ⟨gx, 0, none⟩)), (.pointer (some ⟨gx, 0, none⟩)), (.pointer (some ⟨gx, 0, none⟩)), (.pointer (some ⟨gx, 0, none⟩)), (.pointer (some ⟨gx, 0, none⟩)), (.pointer (some ⟨gx, 0, none⟩)), (.pointer (some ⟨gx, 0, none⟩)), (.pointer (some ⟨gx, 82, none⟩)), (.agg a.C), (.pointer (some ⟨gy, 0, none⟩)), (.pointer (some ⟨gy, 0, none⟩)), (.pointer (some ⟨gy, 164, none⟩)), (.agg b2.C), (.agg r1.C), (.pointer (some ⟨gx, 0, none⟩)), (.pointer (some ⟨gx, 0, none⟩)), (.pointer (some ⟨gx, 0, none⟩)), (.pointer (some ⟨gx, 0, none⟩)), (.pointer (some ⟨gx, 0, none⟩)), (.pointer (some ⟨gx, 164, none⟩)), (.agg b.C), (.pointer (some ⟨gy, 0, none⟩)), (.pointer (some ⟨gy, 0, none⟩)), (.pointer (some ⟨gy, 82, none⟩)), (.agg a2.C), (.agg r2.C), (.agg r3.C), undef, undef, undef, undef], defers := [] } ?_
     exact ⟨rfl, _, _, _, _, _, _, _, _, _, _, _, _, _, _, _, _, _, _, _, _, _, _, _, _, _, _, _, _, _, _, _, _, _, _, _, _, _, _, _, _, _, _, _, _, _, _, _, _, _, _, _, _, _, _, _, _, w2.heap.size, r3, rfl, hr3, HG4.out.putAt HLe.out HN.out r3.C⟩
   ·have HG2 := Lib.hid (HG1.out.new ZL 100)
    have HN := Lib.hid HG1.out.h.apart
    have HLe := Lib.hid HG1.out.b.size
    have HS2 := Lib.hid HG2.out.h.tail
    refine sq_allock (some 6) 100 ZL (HZL _) HS2.out ?_
    generalize w1.alloc (.cells ZL 100) = w2 at *
    refine sq_done ?_
    refine m_maskk (M' := 335544319) ?_
    refine m_seqk (f := 0) iG1 [(false, 26), (false, 27), (false, 29)] 1073741823 HS2.out ?_
    refine sq_ck (some 61) Tryz.func107 (C2.out _ HS2.out) ?_
    rintro e w3 ⟨r2, rfl, hr2, bw3⟩
    have HG3 := Lib.hid (HG2.out.on bw3)
    have HS3 := Lib.hid HG3.out.h.tail
    refine ⟨_, rfl, HS3.out, ?_⟩
    refine sq_ck (some 62) Tryz.func108 (C3.out _ _ _ HS3.out hr1 hr2) ?_
    rintro e w4 ⟨r3, rfl, hr3, bw4⟩
    have HG4 := Lib.hid (HG3.out.on bw4)
    have HS4 := Lib.hid HG4.out.h.tail
    refine ⟨_, rfl, HS4.out, ?_⟩
    refine sq_st 100 w1.heap.size r3.C (HG4.out.h _ (.head _)) (by rw [hr3.size]; exact Tryz.infoLimb) (HZLs.out.trans hr3.size.symm) (rowC_one _ _) (HS4.out.setRow HN.out) (by kernel_rfl) ?_
    refine sq_done ?_
    refine m_donek iG1 { tmps := #[(.pointer (some ⟨gx, 0, none⟩)), (.pointer (some ⟨gy, 0, none⟩)), undef, undef, (.pointer (some ⟨w.heap.size, 0, none⟩)), (.pointer (some ⟨ga, 0, none⟩)), (.pointer (some ⟨w1.heap.size, 0, none⟩)), u7, u8, u9, u10, u11, u12, u13, u14, u15, u16, u17, u18, u19, u20, u21, u22, u23, u24, u25, u26, u27, u28, u29, u30, u31, u32, u33, u34, (.pointer (some ⟨gx, 0, none⟩)), (.pointer (some ⟨gx, 0, none⟩)), (.pointer (some ⟨gx, 0, none⟩)), (.pointer (some ⟨gx, 0, none⟩)), (.pointer (some ⟨gx, 0, none⟩)), (.pointer (some ⟨gx, 0, none⟩)), (.pointer (some ⟨gx, 0, none⟩)), (.pointer (some ⟨gx, 0, none⟩)), (.pointer (some ⟨gx, 82, none⟩)), (.agg a.C), (.pointer (some ⟨gy, 0, none⟩)), (.pointer (some ⟨gy, 0, none⟩)), (.pointer (some ⟨gy, 164, none⟩)), (.agg b2.C), (.agg r1.C), (.pointer (some ⟨gx, 0, none⟩)), (.pointer (some ⟨gx, 0, none⟩)), (.pointer (some ⟨gx, 0, none⟩)), (.pointer (some ⟨gx, 0, none⟩)), (.pointer (some ⟨gx, 0, none⟩)), (.pointer (some ⟨gx, 164, none⟩)), (.agg b.C), (.pointer (some ⟨gy, 0, none⟩)), (.pointer (some ⟨gy, 0, none⟩)), (.pointer (some ⟨gy, 82, none⟩)), (.agg a2.C), (.agg r2.C), (.agg r3.C), undef, undef, undef, undef], defers := [] } ?_
    exact ⟨rfl, _, _, _, _, _, _, _, _, _, _, _, _, _, _, _, _, _, _, _, _, _, _, _, _, _, _, _, _, _, _, _, _, _, _, _, _, _, _, _, _, _, _, _, _, _, _, _, _, _, _, _, _, _, _, _, _, w1.heap.size, r3, rfl, hr3, HG4.out.putAt HLe.out HN.out r3.C⟩
  ·have HG1 := Lib.hid (HG0.out.new ZL 100)
   have HN := Lib.hid HG0.out.h.apart
   have HLe := Lib.hid HG0.out.b.size
   have HS1 := Lib.hid HG1.out.h.tail
   refine sq_allock (some 6) 100 ZL (HZL _) HS1.out ?_
   generalize w0.alloc (.cells ZL 100) = w1 at *
   refine sq_done ?_
   refine m_maskk (M' := 335527935) ?_
   refine m_seqk (f := 0) iG1 [(false, 14), (false, 26), (false, 27), (false, 29)] 1073741823 HS1.out ?_
   refine sq_ck (some 49) Tryz.func107 (C1.out _ HS1.out) ?_
   rintro e w2 ⟨r1, rfl, hr1, bw2⟩
   have HG2 := Lib.hid (HG1.out.on bw2)
   have HS2 := Lib.hid HG2.out.h.tail
   refine ⟨_, rfl, HS2.out, ?_⟩
   refine sq_ck (some 61) Tryz.func107 (C2.out _ HS2.out) ?_
   rintro e w3 ⟨r2, rfl, hr2, bw3⟩
   have HG3 := Lib.hid (HG2.out.on bw3)
   have HS3 := Lib.hid HG3.out.h.tail
   refine ⟨_, rfl, HS3.out, ?_⟩
   refine sq_ck (some 62) Tryz.func108 (C3.out _ _ _ HS3.out hr1 hr2) ?_
   rintro e w4 ⟨r3, rfl, hr3, bw4⟩
   have HG4 := Lib.hid (HG3.out.on bw4)
   have HS4 := Lib.hid HG4.out.h.tail
   refine ⟨_, rfl, HS4.out, ?_⟩
   refine sq_st 100 w0.heap.size r3.C (HG4.out.h _ (.head _)) (by rw [hr3.size]; exact Tryz.infoLimb) (HZLs.out.trans hr3.size.symm) (rowC_one _ _) (HS4.out.setRow HN.out) (by kernel_rfl) ?_
   refine sq_done ?_
   refine m_donek iG1 { tmps := #[(.pointer (some ⟨gx, 0, none⟩)), (.pointer (some ⟨gy, 0, none⟩)), undef, undef, (.pointer (some ⟨w.heap.size, 0, none⟩)), (.pointer (some ⟨ga, 0, none⟩)), (.pointer (some ⟨w0.heap.size, 0, none⟩)), u7, u8, u9, u10, u11, u12, u13, u14, u15, u16, u17, u18, u19, u20, u21, u22, u23, u24, u25, u26, u27, u28, u29, u30, u31, u32, u33, u34, (.pointer (some ⟨gx, 0, none⟩)), (.pointer (some ⟨gx, 0, none⟩)), (.pointer (some ⟨gx, 0, none⟩)), (.pointer (some ⟨gx, 0, none⟩)), (.pointer (some ⟨gx, 0, none⟩)), (.pointer (some ⟨gx, 0, none⟩)), (.pointer (some ⟨gx, 0, none⟩)), (.pointer (some ⟨gx, 0, none⟩)), (.pointer (some ⟨gx, 82, none⟩)), (.agg a.C), (.pointer (some ⟨gy, 0, none⟩)), (.pointer (some ⟨gy, 0, none⟩)), (.pointer (some ⟨gy, 164, none⟩)), (.agg b2.C), (.agg r1.C), (.pointer (some ⟨gx, 0, none⟩)), (.pointer (some ⟨gx, 0, none⟩)), (.pointer (some ⟨gx, 0, none⟩)), (.pointer (some ⟨gx, 0, none⟩)), (.pointer (some ⟨gx, 0, none⟩)), (.pointer (some ⟨gx, 164, none⟩)), (.agg b.C), (.pointer (some ⟨gy, 0, none⟩)), (.pointer (some ⟨gy, 0, none⟩)), (.pointer (some ⟨gy, 82, none⟩)), (.agg a2.C), (.agg r2.C), (.agg r3.C), undef, undef, undef, undef], defers := [] } ?_
   exact ⟨rfl, _, _, _, _, _, _, _, _, _, _, _, _, _, _, _, _, _, _, _, _, _, _, _, _, _, _, _, _, _, _, _, _, _, _, _, _, _, _, _, _, _, _, _, _, _, _, _, _, _, _, _, _, _, _, _, _, w0.heap.size, r3, rfl, hr3, HG4.out.putAt HLe.out HN.out r3.C⟩
 clear C1 C2 C3 FXA FXB FYA FYB HG0 HS0
 rintro e a w2 ⟨rfl, u7, u8, u9, u10, u11, u12, u13, u14, u15, u16, u17, u18, u19, u20, u21, u22, u23, u24, u25, u26, u27, u28, u29, u30, u31, u32, u33, u34, u35, u36, u37, u38, u39, u40, u41, u42, u43, u44, u45, u46, u47, u48, u49, u50, u51, u52, u53, u54, u55, u56, u57, u58, u59, u60, u61, u62, gb, rb, rfl, hrb, hg2⟩
 have HRB := Lib.hid hrb
 have HG := Lib.hid hg2
 clear hrb hg2
 have hA := HG.out.h _ (.tail _ (.head _))
 have hB := HG.out.h _ (.head _)
 refine ‹∀ a w, Code.wp _ _ _ a w → _› _ _ ?_
 go_wp2_with (first | refine load_v rfl 100 (.tmp 5) rfl ga ra.C rfl hA Tryz.underlying100 rfl (by rw [HRA.out.size]; exact Tryz.infoLimb) ?_ | refine load_v rfl 100 (.tmp 6) rfl gb rb.C rfl hB Tryz.underlying100 rfl (by rw [HRB.out.size]; exact Tryz.infoLimb) ?_)
 refine (with_any (y := mulP n x y) (HG.out.h _ (.tail _ (.tail _ (.tail _ (.head _))))) HX.out HRA.out HRB.out).mono ?_
 rintro e w3 ⟨p3, a3, b3, rfl, T3, bw3⟩
 have HG3 := Lib.hid (HG.out.on bw3)
 have HE := Lib.hid (HG3.out.put (Nat.le_refl _) (triC p3 a3 b3))
 have HT := Lib.hid T3
 clear HG bw3 T3 hA hB
 go_wp2_with (refine store_v rfl 104 (.tmp 4) (.tmp 66) rfl w.heap.size Z (triC p3 a3 b3) rfl rfl HG3.out.out (by rw [HT.out.size]; exact Tryz.infoTri) (HZs.out.trans HT.out.size.symm) (tri_one _ _ _) ?_)
 exact bodyPost_ret (results_cell_row Tryz.results70 _ _ w.heap.size _ _ _ _ rfl HE.out.out Tryz.underlying104 rfl (by rw [HT.out.size]; exact Tryz.infoTri)) rfl ⟨p3, a3, b3, rfl, HT.out, HE.out.b⟩
end Go.Proofs.YtdajgcgliidjbaaGreat
namespace Go.Proofs.YtdajgcgliidjbaaGreat
open Go.RowKit
structure Laid (w wf : World) (g g' : Nat) (C C' : Array Value) (t : TypeId) (o : Nat) (Z : Array Value) (tz : TypeId) : Prop where
 h : wf.heap[g]? = some (.cells C t (0, 0))
 h' : wf.heap[g']? = some (.cells C' t (0, 0))
 out : wf.heap[o]? = some (.cells Z tz (0, 0))
 b : Below w.heap.size w wf
theorem Laid.on {w wf w' : World} {g g' : Nat} {C C' : Array Value} {t : TypeId} {o : Nat} {Z : Array Value} {tz : TypeId} (h : Laid w wf g g' C C' t o Z tz) (b : Below wf.heap.size wf w') : Laid w w' g g' C C' t o Z tz := ⟨stays b h.h, stays b h.h', stays b h.out, bt h.b b⟩
theorem two_put {w w' : World} {L : List (Nat × Array Value × TypeId)} {o g g' : Nat} {Z C : Array Value} {tz t : TypeId} (hg : w'.heap[g]? = some (.cells C t (0, 0))) (hg' : w'.heap[g']? = some (.cells C t (0, 0))) (hL : Held w' L) (ho : w'.heap[o]? = some (.cells Z tz (0, 0))) (hb : Below w.heap.size w w')
  (l : w.heap.size ≤ g) (l' : w.heap.size ≤ g') (ne : g ≠ g') (no : g ≠ o) (no' : g' ≠ o) (ap : ∀ q ∈ L, q.1 ≠ g) (ap' : ∀ q ∈ L, q.1 ≠ g') (D D' : Array Value) :
  Held (w'.setRow g D) L ∧ (w'.setRow g D).heap[g']? = some (.cells C t (0, 0)) ∧ Held ((w'.setRow g D).setRow g' D') L ∧ Laid w ((w'.setRow g D).setRow g' D') g g' D D' t o Z tz := by
 have e1 := (setRow_other w' g g' D (Ne.symm ne)).trans hg'
 exact ⟨hL.setRow ap, e1, (hL.setRow ap).setRow ap', ⟨(setRow_other _ _ _ _ ne).trans (setRow_heap _ _ _ _ _ _ hg), setRow_heap _ _ _ _ _ _ e1, (setRow_other _ _ _ _ (Ne.symm no')).trans ((setRow_other _ _ _ _ (Ne.symm no)).trans ho), below_setRow2 (below_setRow2 hb l _) l' _⟩⟩
theorem pair_sizes {x : Pt} {p : ByteArray} (h : pairB x p = true) : (x.1.size ≤ 160 ∧ x.2.size ≤ 160 ∧ p.size ≤ 160) ∧ InP2 (gV p) (valP x) ∧ 1 < gV p ∧ gV p < GB := by
 obtain ⟨hm, h1, h2⟩ := pairB_parts h
 obtain ⟨okp, hp⟩ := modB_parts hm
 exact ⟨⟨okG_size' (restB_parts h1).1, okG_size' (restB_parts h2).1, okG_size' okp⟩, (pair_num h).1, hp, gV_lt okp⟩
theorem row_part {w : World} {g : Nat} {r : Rw} {x : Nat} {t : TypeId} (h : r.Ok x) (hg : w.heap[g]? = some (.cells r.C t (0, 0))) : RowP w g 0 r.l r.c := ⟨h.len, #[], #[], t, by rw [hg]; unfold Rw.C; simp, rfl⟩
theorem pairOk_i (x : Pt) (p : ByteArray) (w : World) : Calls Tryz.prog 38 #[.agg (aggT x), .string p] w fun e w' => e = .returned (.bool (pairB x p)) ∧ Below w.heap.size w w' := by
 have HM := Lib.hid (leaves_s p)
 have H1 := Lib.hid (restOk_i x.1 p)
 have H2 := Lib.hid (restOk_i x.2 p)
 have HN := Lib.hid (agg_new w x 25)
 obtain ⟨c1, c2⟩ := agg_cells HN.out.1
 unfold pairB
 cases hm : modB p with
 | false =>
  rw [hm] at HM
  go_enter Tryz.func38, Tryz.ntmps38
  go_wp2_with fail
  refine (HM.out _).mono ?_
  rintro e w1 ⟨rfl, rfl⟩
  go_wp2
  go_ret
  exact ⟨rfl, HN.out.2⟩
 | true =>
  rw [hm] at HM
  rw [Bool.true_and]
  cases hr : restB x.1 p with
  | false =>
   rw [hr] at H1
   go_enter Tryz.func38, Tryz.ntmps38
   go_wp2_with fail
   refine (HM.out _).mono ?_
   rintro e w1 ⟨rfl, rfl⟩
   go_wp2_with fail
   refine (H1.out _).mono ?_
   rintro e w2 ⟨rfl, b2⟩
   have bb := bt HN.out.2 b2
   go_wp2
   go_ret
   exact ⟨rfl, bb⟩
  | true =>
   rw [hr] at H1
   rw [Bool.true_and]
   generalize restB x.2 p = r2 at *
   clear hm hr
   go_enter Tryz.func38, Tryz.ntmps38
   go_wp2_with fail
   refine (HM.out _).mono ?_
   rintro e w1 ⟨rfl, rfl⟩
   go_wp2_with fail
   refine (H1.out _).mono ?_
   rintro e w2 ⟨rfl, b2⟩
   have c3 : w2.cell? ⟨w.heap.size, 1, none⟩ = some (.string x.2) := by rw [b2.cell (by simp)]; exact c2
   have HB2 := Lib.hid (bt HN.out.2 b2)
   clear b2 c1 c2
   go_wp2_with fail
   refine (H2.out _).mono ?_
   rintro e w3 ⟨rfl, b3⟩
   have bb := bt HB2.out b3
   clear b3
   go_wp2
   go_ret
   exact ⟨rfl, bb⟩
theorem normOf_i (x : Pt) (p : ByteArray) (w : World) : Calls Tryz.prog 76 #[.agg (aggT x), .string p] w fun e w' => e = .returned (.string (normG x p)) ∧ Below w.heap.size w w' := by
 have HP := Lib.hid (pairOk_i x p)
 have HN := Lib.hid (agg_new w x 25)
 unfold normG
 cases hx : pairB x p with
 | false =>
  rw [hx] at HP
  rw [if_neg (by decide)]
  clear hx
  go_enter Tryz.func76, Tryz.ntmps76
  go_wp2_with (first | refine load_p rfl (.tmp 2) rfl w.heap.size x rfl HN.out.1 ?_)
  refine (HP.out _).mono ?_
  rintro e w1 ⟨rfl, b1⟩
  have B1 := Lib.hid (bt HN.out.2 b1)
  clear b1
  go_wp2
  go_ret
  exact ⟨rfl, B1.out⟩
 | true =>
  rw [hx] at HP
  rw [if_pos rfl]
  obtain ⟨⟨s1, s2, sp⟩, ix, h1, hG⟩ := pair_sizes hx
  obtain ⟨ZT, hzt, HZT⟩ := zero_tri
  have HZTs := Lib.hid hzt
  obtain ⟨ZL, hzl, HZL⟩ := zero_limb
  have HZLs := Lib.hid hzl
  have I1 := Lib.hid (fun w => pairOf_any x p w s1 s2 sp)
  have HI := Lib.hid (And.intro ix hG)
  have HLt := Lib.hid (Nat.lt_trans (normP_lt (show 0 < gV p by omega) (valP x)) hG)
  clear hx s1 s2 sp h1 hzt hzl ix hG
  go_enter Tryz.func76, Tryz.ntmps76
  go_wp2_with (first | refine load_p rfl (.tmp 2) rfl w.heap.size x rfl HN.out.1 ?_)
  refine (HP.out _).mono ?_
  rintro e w1 ⟨rfl, b1⟩
  have HX1 := Lib.hid (stays b1 HN.out.1)
  have B1 := Lib.hid (bt HN.out.2 b1)
  clear b1 HN HP
  go_wp2_with (first | refine load_p rfl (.tmp 2) rfl w.heap.size x rfl HX1.out ?_)
  refine (I1.out _).mono ?_
  rintro e w2 ⟨q, a, b, rfl, T, b2⟩
  have HT := Lib.hid T
  have HG2 := Lib.hid (begun1 (Held.none w2) ZT 104)
  have HE2 := Lib.hid (HG2.out.put (Nat.le_refl _) (triC q a b))
  have B2 := Lib.hid (bt (bt B1.out b2) HE2.out.b)
  clear b2 B1 HX1 I1 T
  go_wp2_with (first | refine store_v rfl 104 (.tmp 5) (.tmp 13) rfl w2.heap.size ZT (triC q a b) rfl rfl HG2.out.out (by rw [HT.out.size]; exact Tryz.infoTri) (HZTs.out.trans HT.out.size.symm) (tri_one _ _ _) ?_)
  refine (norm_any HE2.out.out HT.out HI.out.1 HI.out.2).mono ?_
  rintro e w4 ⟨r, rfl, hr, b4⟩
  have HR := Lib.hid hr
  have HG4 := Lib.hid (begun1 (Held.none w4) ZL 100)
  have HE4 := Lib.hid (HG4.out.put (Nat.le_refl _) r.C)
  have B4 := Lib.hid (bt (bt B2.out b4) HE4.out.b)
  clear b4 B2 HG2 HE2 hr
  go_wp2_with (first | refine store_v rfl 100 (.tmp 6) (.tmp 14) rfl w4.heap.size ZL r.C rfl rfl HG4.out.out (by rw [HR.out.size]; exact Tryz.infoLimb) (HZLs.out.trans HR.out.size.symm) (rowC_one _ _) ?_)
  refine (greatR_any (row_part HR.out HE4.out.out) HR.out HLt.out).mono ?_
  rintro e w5 ⟨rfl, b5⟩
  have B5 := Lib.hid (bt B4.out b5)
  clear b5 B4 HG4 HE4
  go_wp2
  go_ret
  exact ⟨rfl, B5.out⟩
end Go.Proofs.YtdajgcgliidjbaaGreat

/-
  The contracts of impl's pairs over a prime: sums, differences and products of rows over it.
-/
import Derived.Test.YtflfeepgkcamnaaGreatJTri
namespace Go.Proofs.YtflfeepgkcamnaaGreat
open Go.RowKit

set_option maxRecDepth 8000 in
set_option maxHeartbeats 4000000 in
theorem sum_any {g n x y : Nat} {a b p : Rw} {w : World} (hg : RowA w g p.l p.c) (ha : a.Ok x) (hb : b.Ok y) (hp : p.Ok n) (hx : x < n) (hy : y < n) (hG : n < GB) :
    Calls Tryz.prog 52 #[.pointer (some ⟨g, 0, none⟩), .agg a.C, .agg b.C] w (RwPost ((x + y) % n) w) := by
  obtain ⟨_, post, t, hg⟩ := hg
  have C1 := Lib.hid (sumR_any ha hb hp hx hy hG)
  obtain ⟨Z, hz, HZ⟩ := zero_limb
  have HZs := Lib.hid hz
  have H0 : Held w [(g, rowC p.l p.c ++ post, t)] := (Held.none w).cons hg
  have HG0 := Lib.hid (begun3 H0 a.C b.C Z 41 41 41).drew
  have HS0 := Lib.hid HG0.out.h
  have FA := Lib.hid (show ∀ w', Held w' ((w.heap.size + 1, b.C, 41) :: (w.heap.size, a.C, 41) :: [(g, rowC p.l p.c ++ post, t)]) → (Instr.loadAt 41 (.pointer (some ⟨w.heap.size, 0, none⟩))).run Tryz.prog w' = .ok (.agg a.C) w' from fun w' hw => row_loadL ha (hw _ (.tail _ (.head _))))
  have FB := Lib.hid (show ∀ w', Held w' ((w.heap.size + 1, b.C, 41) :: (w.heap.size, a.C, 41) :: [(g, rowC p.l p.c ++ post, t)]) → (Instr.loadAt 41 (.pointer (some ⟨w.heap.size + 1, 0, none⟩))).run Tryz.prog w' = .ok (.agg b.C) w' from fun w' hw => row_loadL hb (hw _ (.head _)))
  have FP := Lib.hid (show ∀ w', Held w' ((w.heap.size + 1, b.C, 41) :: (w.heap.size, a.C, 41) :: [(g, rowC p.l p.c ++ post, t)]) → (Instr.loadAt 41 (.pointer (some ⟨g, 0, none⟩))).run Tryz.prog w' = .ok (.agg p.C) w' from fun w' hw => (RowA.part ⟨hp.len, post, t, hw _ (.tail _ (.tail _ (.head _)))⟩).loadL)
  clear hg ha hb hp hx hy hG hz H0
  go_enter Tryz.func52, Tryz.ntmps52
  go_wp2_with fail
  generalize ((w.alloc _).alloc _).alloc _ = w0 at *
  refine wp_region_seq (S := fun w' => Held w' ((w.heap.size + 1, b.C, 41) :: (w.heap.size, a.C, 41) :: [(g, rowC p.l p.c ++ post, t)])) [⟨0, some 7, [4]⟩, ⟨0, some 8, [5]⟩, ⟨0, some 9, [0]⟩, ⟨4, some 10, [9]⟩, ⟨8, some 11, [10]⟩, ⟨16, some 12, [11]⟩, ⟨35, some 13, [7, 8, 12]⟩, ⟨127, none, [6, 13]⟩] [(true, 0), (true, 1), (true, 2), (true, 3), (true, 4), (true, 5), (false, 6), (false, 7)] (by kernel_rfl) (by kernel_rfl) (by kernel_rfl) (by kernel_rfl) (by kernel_rfl) (by kernel_rfl) (fun d _ _ _ _ h => by cases d <;> exact h) HS0.out ?_
  refine sq_held (some 7) (.agg a.C) (by kernel_rfl) (by kernel_rfl) (held_load 41 (.tmp 4) (by kernel_rfl) _ _ (by kernel_rfl) FA.out) ?_
  refine sq_held (some 8) (.agg b.C) (by kernel_rfl) (by kernel_rfl) (held_load 41 (.tmp 5) (by kernel_rfl) _ _ (by kernel_rfl) FB.out) ?_
  refine sq_pure (some 9) (.pointer (some ⟨g, 0, none⟩)) (by kernel_rfl) (by kernel_rfl) (fun _ => (by kernel_rfl)) ?_
  refine sq_pure (some 10) (.pointer (some ⟨g, 0, none⟩)) (by kernel_rfl) (by kernel_rfl) (fun _ => (by kernel_rfl)) ?_
  refine sq_pure (some 11) (.pointer (some ⟨g, 0, none⟩)) (by kernel_rfl) (by kernel_rfl) (fun _ => (by kernel_rfl)) ?_
  refine sq_held (some 12) (.agg p.C) (by kernel_rfl) (by kernel_rfl) (held_load 41 (.tmp 11) (by kernel_rfl) _ _ (by kernel_rfl) FP.out) ?_
  refine sq_fn (some 13) [.agg a.C, .agg b.C, .agg p.C] Tryz.func78 (by kernel_rfl) (by kernel_rfl) (by kernel_rfl) (by kernel_rfl) (by kernel_rfl) (by kernel_rfl) ?_
  refine (C1.out _).mono ?_
  rintro e w1 ⟨r1, rfl, hr1, bw1⟩
  have HG1 := Lib.hid (HG0.out.on bw1)
  have HS1 := Lib.hid HG1.out.h
  refine ⟨_, rfl, HS1.out, ?_⟩
  refine sq_store 41 (.tmp 6) (.tmp 13) (w.heap.size + 1 + 1) _ (r1.C) (by kernel_rfl) (by kernel_rfl) (by kernel_rfl) (by kernel_rfl) (by kernel_rfl) (by kernel_rfl) HG1.out.out (by rw [hr1.size]; exact Tryz.infoLimb) (HZs.out.trans hr1.size.symm) (rowC_one _ _) (HS1.out.setRow HG1.out.ne) ?_
  have HE := Lib.hid (HG1.out.put (by omega) r1.C)
  have HR := Lib.hid hr1
  clear HG1 HS1 FA FB FP C1
  refine sq_fin { tmps := #[(.pointer (some ⟨g, 0, none⟩)), (.agg a.C), (.agg b.C), undef, (.pointer (some ⟨w.heap.size, 0, none⟩)), (.pointer (some ⟨(w.heap.size + 1), 0, none⟩)), (.pointer (some ⟨(w.heap.size + 1 + 1), 0, none⟩)), (.agg a.C), (.agg b.C), (.pointer (some ⟨g, 0, none⟩)), (.pointer (some ⟨g, 0, none⟩)), (.pointer (some ⟨g, 0, none⟩)), (.agg p.C), (.agg r1.C)], defers := [] } (by kernel_rfl) ?_
  refine (by assumption : ∀ (a : Act) (w_1 : World), Code.wp _ Code.ret _ a w_1 → _) _ _ ?_
  refine wp_ret ?_
  exact bodyPost_ret (results_cell_row Tryz.results52 _ _ (w.heap.size + 1 + 1) _ _ _ _ rfl HE.out.out Tryz.underlying41 rfl (by rw [HR.out.size]; exact Tryz.infoLimb)) rfl ⟨r1, rfl, HR.out, HE.out.b⟩

set_option maxRecDepth 8000 in
set_option maxHeartbeats 4000000 in
theorem difference_any {g n x y : Nat} {a b p : Rw} {w : World} (hg : RowA w g p.l p.c) (ha : a.Ok x) (hb : b.Ok y) (hp : p.Ok n) (hx : x < n) (hy : y < n) (hG : n < GB) :
    Calls Tryz.prog 54 #[.pointer (some ⟨g, 0, none⟩), .agg a.C, .agg b.C] w (RwPost ((x + n - y) % n) w) := by
  obtain ⟨_, post, t, hg⟩ := hg
  have C1 := Lib.hid (differenceR_any ha hb hp hx hy hG)
  obtain ⟨Z, hz, HZ⟩ := zero_limb
  have HZs := Lib.hid hz
  have H0 : Held w [(g, rowC p.l p.c ++ post, t)] := (Held.none w).cons hg
  have HG0 := Lib.hid (begun3 H0 a.C b.C Z 41 41 41).drew
  have HS0 := Lib.hid HG0.out.h
  have FA := Lib.hid (show ∀ w', Held w' ((w.heap.size + 1, b.C, 41) :: (w.heap.size, a.C, 41) :: [(g, rowC p.l p.c ++ post, t)]) → (Instr.loadAt 41 (.pointer (some ⟨w.heap.size, 0, none⟩))).run Tryz.prog w' = .ok (.agg a.C) w' from fun w' hw => row_loadL ha (hw _ (.tail _ (.head _))))
  have FB := Lib.hid (show ∀ w', Held w' ((w.heap.size + 1, b.C, 41) :: (w.heap.size, a.C, 41) :: [(g, rowC p.l p.c ++ post, t)]) → (Instr.loadAt 41 (.pointer (some ⟨w.heap.size + 1, 0, none⟩))).run Tryz.prog w' = .ok (.agg b.C) w' from fun w' hw => row_loadL hb (hw _ (.head _)))
  have FP := Lib.hid (show ∀ w', Held w' ((w.heap.size + 1, b.C, 41) :: (w.heap.size, a.C, 41) :: [(g, rowC p.l p.c ++ post, t)]) → (Instr.loadAt 41 (.pointer (some ⟨g, 0, none⟩))).run Tryz.prog w' = .ok (.agg p.C) w' from fun w' hw => (RowA.part ⟨hp.len, post, t, hw _ (.tail _ (.tail _ (.head _)))⟩).loadL)
  clear hg ha hb hp hx hy hG hz H0
  go_enter Tryz.func54, Tryz.ntmps54
  go_wp2_with fail
  generalize ((w.alloc _).alloc _).alloc _ = w0 at *
  refine wp_region_seq (S := fun w' => Held w' ((w.heap.size + 1, b.C, 41) :: (w.heap.size, a.C, 41) :: [(g, rowC p.l p.c ++ post, t)])) [⟨0, some 7, [4]⟩, ⟨0, some 8, [5]⟩, ⟨0, some 9, [0]⟩, ⟨4, some 10, [9]⟩, ⟨8, some 11, [10]⟩, ⟨16, some 12, [11]⟩, ⟨35, some 13, [7, 8, 12]⟩, ⟨127, none, [6, 13]⟩] [(true, 0), (true, 1), (true, 2), (true, 3), (true, 4), (true, 5), (false, 6), (false, 7)] (by kernel_rfl) (by kernel_rfl) (by kernel_rfl) (by kernel_rfl) (by kernel_rfl) (by kernel_rfl) (fun d _ _ _ _ h => by cases d <;> exact h) HS0.out ?_
  refine sq_held (some 7) (.agg a.C) (by kernel_rfl) (by kernel_rfl) (held_load 41 (.tmp 4) (by kernel_rfl) _ _ (by kernel_rfl) FA.out) ?_
  refine sq_held (some 8) (.agg b.C) (by kernel_rfl) (by kernel_rfl) (held_load 41 (.tmp 5) (by kernel_rfl) _ _ (by kernel_rfl) FB.out) ?_
  refine sq_pure (some 9) (.pointer (some ⟨g, 0, none⟩)) (by kernel_rfl) (by kernel_rfl) (fun _ => (by kernel_rfl)) ?_
  refine sq_pure (some 10) (.pointer (some ⟨g, 0, none⟩)) (by kernel_rfl) (by kernel_rfl) (fun _ => (by kernel_rfl)) ?_
  refine sq_pure (some 11) (.pointer (some ⟨g, 0, none⟩)) (by kernel_rfl) (by kernel_rfl) (fun _ => (by kernel_rfl)) ?_
  refine sq_held (some 12) (.agg p.C) (by kernel_rfl) (by kernel_rfl) (held_load 41 (.tmp 11) (by kernel_rfl) _ _ (by kernel_rfl) FP.out) ?_
  refine sq_fn (some 13) [.agg a.C, .agg b.C, .agg p.C] Tryz.func80 (by kernel_rfl) (by kernel_rfl) (by kernel_rfl) (by kernel_rfl) (by kernel_rfl) (by kernel_rfl) ?_
  refine (C1.out _).mono ?_
  rintro e w1 ⟨r1, rfl, hr1, bw1⟩
  have HG1 := Lib.hid (HG0.out.on bw1)
  have HS1 := Lib.hid HG1.out.h
  refine ⟨_, rfl, HS1.out, ?_⟩
  refine sq_store 41 (.tmp 6) (.tmp 13) (w.heap.size + 1 + 1) _ (r1.C) (by kernel_rfl) (by kernel_rfl) (by kernel_rfl) (by kernel_rfl) (by kernel_rfl) (by kernel_rfl) HG1.out.out (by rw [hr1.size]; exact Tryz.infoLimb) (HZs.out.trans hr1.size.symm) (rowC_one _ _) (HS1.out.setRow HG1.out.ne) ?_
  have HE := Lib.hid (HG1.out.put (by omega) r1.C)
  have HR := Lib.hid hr1
  clear HG1 HS1 FA FB FP C1
  refine sq_fin { tmps := #[(.pointer (some ⟨g, 0, none⟩)), (.agg a.C), (.agg b.C), undef, (.pointer (some ⟨w.heap.size, 0, none⟩)), (.pointer (some ⟨(w.heap.size + 1), 0, none⟩)), (.pointer (some ⟨(w.heap.size + 1 + 1), 0, none⟩)), (.agg a.C), (.agg b.C), (.pointer (some ⟨g, 0, none⟩)), (.pointer (some ⟨g, 0, none⟩)), (.pointer (some ⟨g, 0, none⟩)), (.agg p.C), (.agg r1.C)], defers := [] } (by kernel_rfl) ?_
  refine (by assumption : ∀ (a : Act) (w_1 : World), Code.wp _ Code.ret _ a w_1 → _) _ _ ?_
  refine wp_ret ?_
  exact bodyPost_ret (results_cell_row Tryz.results54 _ _ (w.heap.size + 1 + 1) _ _ _ _ rfl HE.out.out Tryz.underlying41 rfl (by rw [HR.out.size]; exact Tryz.infoLimb)) rfl ⟨r1, rfl, HR.out, HE.out.b⟩

set_option maxRecDepth 8000 in
set_option maxHeartbeats 4000000 in
theorem product_any {g n x y : Nat} {a b p : Rw} {w : World} (hg : RowA w g p.l p.c) (ha : a.Ok x) (hb : b.Ok y) (hp : p.Ok n) (hx : x < n) (hy : y < n) (hG : n < GB) :
    Calls Tryz.prog 53 #[.pointer (some ⟨g, 0, none⟩), .agg a.C, .agg b.C] w (RwPost (x * y % n) w) := by
  obtain ⟨_, post, t, hg⟩ := hg
  have C1 := Lib.hid (productR_any ha hb hp hx hy hG)
  obtain ⟨Z, hz, HZ⟩ := zero_limb
  have HZs := Lib.hid hz
  have H0 : Held w [(g, rowC p.l p.c ++ post, t)] := (Held.none w).cons hg
  have HG0 := Lib.hid (begun3 H0 a.C b.C Z 41 41 41).drew
  have HS0 := Lib.hid HG0.out.h
  have FA := Lib.hid (show ∀ w', Held w' ((w.heap.size + 1, b.C, 41) :: (w.heap.size, a.C, 41) :: [(g, rowC p.l p.c ++ post, t)]) → (Instr.loadAt 41 (.pointer (some ⟨w.heap.size, 0, none⟩))).run Tryz.prog w' = .ok (.agg a.C) w' from fun w' hw => row_loadL ha (hw _ (.tail _ (.head _))))
  have FB := Lib.hid (show ∀ w', Held w' ((w.heap.size + 1, b.C, 41) :: (w.heap.size, a.C, 41) :: [(g, rowC p.l p.c ++ post, t)]) → (Instr.loadAt 41 (.pointer (some ⟨w.heap.size + 1, 0, none⟩))).run Tryz.prog w' = .ok (.agg b.C) w' from fun w' hw => row_loadL hb (hw _ (.head _)))
  have FP := Lib.hid (show ∀ w', Held w' ((w.heap.size + 1, b.C, 41) :: (w.heap.size, a.C, 41) :: [(g, rowC p.l p.c ++ post, t)]) → (Instr.loadAt 41 (.pointer (some ⟨g, 0, none⟩))).run Tryz.prog w' = .ok (.agg p.C) w' from fun w' hw => (RowA.part ⟨hp.len, post, t, hw _ (.tail _ (.tail _ (.head _)))⟩).loadL)
  clear hg ha hb hp hx hy hG hz H0
  go_enter Tryz.func53, Tryz.ntmps53
  go_wp2_with fail
  generalize ((w.alloc _).alloc _).alloc _ = w0 at *
  refine wp_region_seq (S := fun w' => Held w' ((w.heap.size + 1, b.C, 41) :: (w.heap.size, a.C, 41) :: [(g, rowC p.l p.c ++ post, t)])) [⟨0, some 7, [4]⟩, ⟨0, some 8, [5]⟩, ⟨0, some 9, [0]⟩, ⟨4, some 10, [9]⟩, ⟨8, some 11, [10]⟩, ⟨16, some 12, [11]⟩, ⟨35, some 13, [7, 8, 12]⟩, ⟨127, none, [6, 13]⟩] [(true, 0), (true, 1), (true, 2), (true, 3), (true, 4), (true, 5), (false, 6), (false, 7)] (by kernel_rfl) (by kernel_rfl) (by kernel_rfl) (by kernel_rfl) (by kernel_rfl) (by kernel_rfl) (fun d _ _ _ _ h => by cases d <;> exact h) HS0.out ?_
  refine sq_held (some 7) (.agg a.C) (by kernel_rfl) (by kernel_rfl) (held_load 41 (.tmp 4) (by kernel_rfl) _ _ (by kernel_rfl) FA.out) ?_
  refine sq_held (some 8) (.agg b.C) (by kernel_rfl) (by kernel_rfl) (held_load 41 (.tmp 5) (by kernel_rfl) _ _ (by kernel_rfl) FB.out) ?_
  refine sq_pure (some 9) (.pointer (some ⟨g, 0, none⟩)) (by kernel_rfl) (by kernel_rfl) (fun _ => (by kernel_rfl)) ?_
  refine sq_pure (some 10) (.pointer (some ⟨g, 0, none⟩)) (by kernel_rfl) (by kernel_rfl) (fun _ => (by kernel_rfl)) ?_
  refine sq_pure (some 11) (.pointer (some ⟨g, 0, none⟩)) (by kernel_rfl) (by kernel_rfl) (fun _ => (by kernel_rfl)) ?_
  refine sq_held (some 12) (.agg p.C) (by kernel_rfl) (by kernel_rfl) (held_load 41 (.tmp 11) (by kernel_rfl) _ _ (by kernel_rfl) FP.out) ?_
  refine sq_fn (some 13) [.agg a.C, .agg b.C, .agg p.C] Tryz.func79 (by kernel_rfl) (by kernel_rfl) (by kernel_rfl) (by kernel_rfl) (by kernel_rfl) (by kernel_rfl) ?_
  refine (C1.out _).mono ?_
  rintro e w1 ⟨r1, rfl, hr1, bw1⟩
  have HG1 := Lib.hid (HG0.out.on bw1)
  have HS1 := Lib.hid HG1.out.h
  refine ⟨_, rfl, HS1.out, ?_⟩
  refine sq_store 41 (.tmp 6) (.tmp 13) (w.heap.size + 1 + 1) _ (r1.C) (by kernel_rfl) (by kernel_rfl) (by kernel_rfl) (by kernel_rfl) (by kernel_rfl) (by kernel_rfl) HG1.out.out (by rw [hr1.size]; exact Tryz.infoLimb) (HZs.out.trans hr1.size.symm) (rowC_one _ _) (HS1.out.setRow HG1.out.ne) ?_
  have HE := Lib.hid (HG1.out.put (by omega) r1.C)
  have HR := Lib.hid hr1
  clear HG1 HS1 FA FB FP C1
  refine sq_fin { tmps := #[(.pointer (some ⟨g, 0, none⟩)), (.agg a.C), (.agg b.C), undef, (.pointer (some ⟨w.heap.size, 0, none⟩)), (.pointer (some ⟨(w.heap.size + 1), 0, none⟩)), (.pointer (some ⟨(w.heap.size + 1 + 1), 0, none⟩)), (.agg a.C), (.agg b.C), (.pointer (some ⟨g, 0, none⟩)), (.pointer (some ⟨g, 0, none⟩)), (.pointer (some ⟨g, 0, none⟩)), (.agg p.C), (.agg r1.C)], defers := [] } (by kernel_rfl) ?_
  refine (by assumption : ∀ (a : Act) (w_1 : World), Code.wp _ Code.ret _ a w_1 → _) _ _ ?_
  refine wp_ret ?_
  exact bodyPost_ret (results_cell_row Tryz.results53 _ _ (w.heap.size + 1 + 1) _ _ _ _ rfl HE.out.out Tryz.underlying41 rfl (by rw [HR.out.size]; exact Tryz.infoLimb)) rfl ⟨r1, rfl, HR.out, HE.out.b⟩

set_option maxRecDepth 8000 in
set_option maxHeartbeats 4000000 in
theorem with_any {g n : Nat} {x y : Pn} {p a b u v : Rw} {w : World} (hg : w.heap[g]? = some (.cells (triC p a b) 45 (0, 0))) (T : Tri n x p a b) (hu : u.Ok y.1) (hv : v.Ok y.2) :
    Calls Tryz.prog 21 #[.pointer (some ⟨g, 0, none⟩), .agg u.C, .agg v.C] w (TriPost n y w) := by
  obtain ⟨Z, hz, HZ⟩ := zero_tri
  have HZs := Lib.hid hz
  have HT := Lib.hid (Tri.mk (x := y) T.hp hu hv)
  have H0 : Held w [(g, triC p a b, 45)] := (Held.none w).cons hg
  have HG0 := Lib.hid (begun3 H0 u.C v.C Z 41 41 45).drew
  have HS0 := Lib.hid HG0.out.h
  have FA := Lib.hid (show ∀ w', Held w' (((w.heap.size + 1), v.C, 41) :: (w.heap.size, u.C, 41) :: [(g, triC p a b, 45)]) → (Instr.loadAt 41 (.pointer (some ⟨w.heap.size, 0, none⟩))).run Tryz.prog w' = .ok (.agg u.C) w' from fun w' hw => row_loadL hu (hw _ (.tail _ (.head _))))
  have FB := Lib.hid (show ∀ w', Held w' (((w.heap.size + 1), v.C, 41) :: (w.heap.size, u.C, 41) :: [(g, triC p a b, 45)]) → (Instr.loadAt 41 (.pointer (some ⟨w.heap.size + 1, 0, none⟩))).run Tryz.prog w' = .ok (.agg v.C) w' from fun w' hw => row_loadL hv (hw _ (.head _)))
  have FP := Lib.hid (show ∀ w', Held w' (((w.heap.size + 1), v.C, 41) :: (w.heap.size, u.C, 41) :: [(g, triC p a b, 45)]) → (Instr.loadAt 43 (.pointer (some ⟨g, 0, none⟩))).run Tryz.prog w' = .ok (.agg p.C) w' from fun w' hw => (T.rowP (hw _ (.tail _ (.tail _ (.head _))))).part.loadM)
  clear hg T hu hv hz H0
  go_enter Tryz.func21, Tryz.ntmps21
  go_wp2_with fail
  generalize ((w.alloc _).alloc _).alloc _ = w0 at *
  refine wp_region_seq (S := fun w' => Held w' (((w.heap.size + 1), v.C, 41) :: (w.heap.size, u.C, 41) :: [(g, triC p a b, 45)])) [⟨0, some 7, [0]⟩, ⟨1, some 8, [7]⟩, ⟨2, some 9, [8]⟩, ⟨4, some 10, [9]⟩, ⟨0, some 11, [4]⟩, ⟨0, some 12, [5]⟩, ⟨56, some 13, [10, 11, 12]⟩, ⟨127, none, [6, 13]⟩] [(true, 0), (true, 1), (true, 2), (true, 3), (true, 4), (true, 5), (true, 6), (false, 7)] (by kernel_rfl) (by kernel_rfl) (by kernel_rfl) (by kernel_rfl) (by kernel_rfl) (by kernel_rfl) (fun d _ _ _ _ h => by cases d <;> exact h) HS0.out ?_
  refine sq_pure (some 7) (.pointer (some ⟨g, 0, none⟩)) (by kernel_rfl) (by kernel_rfl) (fun _ => (by kernel_rfl)) ?_
  refine sq_pure (some 8) (.pointer (some ⟨g, 0, none⟩)) (by kernel_rfl) (by kernel_rfl) (fun _ => (by kernel_rfl)) ?_
  refine sq_pure (some 9) (.pointer (some ⟨g, 0, none⟩)) (by kernel_rfl) (by kernel_rfl) (fun _ => (by kernel_rfl)) ?_
  refine sq_held (some 10) (.agg p.C) (by kernel_rfl) (by kernel_rfl) (held_load 43 (.tmp 9) (by kernel_rfl) _ _ (by kernel_rfl) FP.out) ?_
  refine sq_held (some 11) (.agg u.C) (by kernel_rfl) (by kernel_rfl) (held_load 41 (.tmp 4) (by kernel_rfl) _ _ (by kernel_rfl) FA.out) ?_
  refine sq_held (some 12) (.agg v.C) (by kernel_rfl) (by kernel_rfl) (held_load 41 (.tmp 5) (by kernel_rfl) _ _ (by kernel_rfl) FB.out) ?_
  refine sq_pure (some 13) (.agg (triC p u v)) (by kernel_rfl) (by kernel_rfl) (held_build 45 #[(0, (.tmp 10)), (1, (.tmp 11)), (2, (.tmp 12))] (by kernel_rfl) _ (by kernel_rfl) _ (built_tri HT.out)) ?_
  refine sq_store 45 (.tmp 6) (.tmp 13) (w.heap.size + 1 + 1) _ (triC p u v) (by kernel_rfl) (by kernel_rfl) (by kernel_rfl) (by kernel_rfl) (by kernel_rfl) (by kernel_rfl) HG0.out.out (by rw [HT.out.size]; exact Tryz.infoTri) (HZs.out.trans HT.out.size.symm) (tri_one _ _ _) (HS0.out.setRow HG0.out.ne) ?_
  have HE := Lib.hid (HG0.out.put (by omega) (triC p u v))
  clear HG0 HS0
  refine sq_fin { tmps := #[(.pointer (some ⟨g, 0, none⟩)), (.agg u.C), (.agg v.C), undef, (.pointer (some ⟨w.heap.size, 0, none⟩)), (.pointer (some ⟨(w.heap.size + 1), 0, none⟩)), (.pointer (some ⟨(w.heap.size + 1 + 1), 0, none⟩)), (.pointer (some ⟨g, 0, none⟩)), (.pointer (some ⟨g, 0, none⟩)), (.pointer (some ⟨g, 0, none⟩)), (.agg p.C), (.agg u.C), (.agg v.C), (.agg (triC p u v))], defers := [] } (by kernel_rfl) ?_
  refine (by assumption : ∀ (a : Act) (w_1 : World), Code.wp _ Code.ret _ a w_1 → _) _ _ ?_
  refine wp_ret ?_
  exact bodyPost_ret (results_cell_row Tryz.results21 _ _ ((w.heap.size + 1 + 1)) _ _ _ _ rfl HE.out.out Tryz.underlying45 rfl (by rw [HT.out.size]; exact Tryz.infoTri)) rfl ⟨p, u, v, rfl, HT.out, HE.out.b⟩

set_option maxRecDepth 8000 in
set_option maxHeartbeats 4000000 in
theorem told_any {g n : Nat} {x : Pn} {p a b : Rw} {w : World} (hg : w.heap[g]? = some (.cells (triC p a b) 45 (0, 0))) (T : Tri n x p a b) (hx : InP2 n x) (hG : n < GB) :
    Calls Tryz.prog 24 #[.pointer (some ⟨g, 0, none⟩)] w (fun e w' => e = .returned (.agg (aggT (txtP x))) ∧ Below w.heap.size w w') := by
  have H0 : Held w [(g, triC p a b, 45)] := (Held.none w).cons hg
  have HG0 := Lib.hid (begun1 H0 #[.string ⟨#[]⟩, .string ⟨#[]⟩] 25).drew
  have HS0 := Lib.hid HG0.out.h
  have CA := Lib.hid (show ∀ w', Held w' [(g, triC p a b, 45)] → Calls Tryz.prog 55 #[.pointer (some ⟨g, 82, none⟩)] w' (fun e w'' => e = .returned (.string (gS x.1)) ∧ Below w'.heap.size w' w'') from fun w' hw => greatR_any (T.rowA (hw _ (.head _))) T.ha (Nat.lt_trans hx.1 hG))
  have CB := Lib.hid (show ∀ w', Held w' [(g, triC p a b, 45)] → Calls Tryz.prog 55 #[.pointer (some ⟨g, 164, none⟩)] w' (fun e w'' => e = .returned (.string (gS x.2)) ∧ Below w'.heap.size w' w'') from fun w' hw => greatR_any (T.rowB (hw _ (.head _))) T.hb (Nat.lt_trans hx.2 hG))
  clear hg T hx hG H0
  go_enter Tryz.func24, Tryz.ntmps24
  go_wp2_with fail
  generalize w.alloc _ = w0 at *
  refine wp_region_seq (S := fun w' => Held w' [(g, triC p a b, 45)]) [⟨0, some 3, [0]⟩, ⟨1, some 4, [3]⟩, ⟨2, some 5, [4]⟩, ⟨4, some 6, [5]⟩, ⟨0, some 7, [0]⟩, ⟨16, some 8, [7]⟩, ⟨32, some 9, [8]⟩, ⟨72, some 10, [9]⟩, ⟨136, some 11, [6, 10]⟩, ⟨511, none, [2, 11]⟩] [(true, 0), (true, 1), (true, 2), (true, 4), (true, 5), (true, 6), (false, 3), (false, 7), (true, 8), (false, 9)] (by kernel_rfl) (by kernel_rfl) (by kernel_rfl) (by kernel_rfl) (by kernel_rfl) (by kernel_rfl) (fun d _ _ _ _ h => by cases d <;> exact h) HS0.out ?_
  refine sq_pure (some 3) (.pointer (some ⟨g, 0, none⟩)) (by kernel_rfl) (by kernel_rfl) (fun _ => (by kernel_rfl)) ?_
  refine sq_pure (some 4) (.pointer (some ⟨g, 0, none⟩)) (by kernel_rfl) (by kernel_rfl) (fun _ => (by kernel_rfl)) ?_
  refine sq_pure (some 5) (.pointer (some ⟨g, 82, none⟩)) (by kernel_rfl) (by kernel_rfl) (fun _ => (by kernel_rfl)) ?_
  refine sq_pure (some 7) (.pointer (some ⟨g, 0, none⟩)) (by kernel_rfl) (by kernel_rfl) (fun _ => (by kernel_rfl)) ?_
  refine sq_pure (some 8) (.pointer (some ⟨g, 0, none⟩)) (by kernel_rfl) (by kernel_rfl) (fun _ => (by kernel_rfl)) ?_
  refine sq_pure (some 9) (.pointer (some ⟨g, 164, none⟩)) (by kernel_rfl) (by kernel_rfl) (fun _ => (by kernel_rfl)) ?_
  refine sq_fn (some 6) [.pointer (some ⟨g, 82, none⟩)] Tryz.func55 (by kernel_rfl) (by kernel_rfl) (by kernel_rfl) (by kernel_rfl) (by kernel_rfl) (by kernel_rfl) ?_
  refine ((CA.out _ HS0.out)).mono ?_
  rintro e w1 ⟨rfl, bw1⟩
  have HG1 := Lib.hid (HG0.out.on bw1)
  have HS1 := Lib.hid HG1.out.h
  refine ⟨_, rfl, HS1.out, ?_⟩
  refine sq_fn (some 10) [.pointer (some ⟨g, 164, none⟩)] Tryz.func55 (by kernel_rfl) (by kernel_rfl) (by kernel_rfl) (by kernel_rfl) (by kernel_rfl) (by kernel_rfl) ?_
  refine ((CB.out _ HS1.out)).mono ?_
  rintro e w2 ⟨rfl, bw2⟩
  have HG2 := Lib.hid (HG1.out.on bw2)
  have HS2 := Lib.hid HG2.out.h
  refine ⟨_, rfl, HS2.out, ?_⟩
  refine sq_pure (some 11) (.agg (aggT (txtP x))) (by kernel_rfl) (by kernel_rfl) (held_build 25 #[(0, (.tmp 6)), (1, (.tmp 10))] (by kernel_rfl) _ (by kernel_rfl) _ (built_pair (gS x.1) (gS x.2))) ?_
  refine sq_store 25 (.tmp 2) (.tmp 11) w.heap.size _ (aggT (txtP x)) (by kernel_rfl) (by kernel_rfl) (by kernel_rfl) (by kernel_rfl) (by kernel_rfl) (by kernel_rfl) HG2.out.out Tryz.infoP rfl (by simp [aggT, Value.oneCell']) (HS2.out.setRow HG2.out.ne) ?_
  have HE := Lib.hid (HG2.out.put (Nat.le_refl _) (aggT (txtP x)))
  clear HG2 HS2
  refine sq_fin { tmps := #[(.pointer (some ⟨g, 0, none⟩)), undef, (.pointer (some ⟨w.heap.size, 0, none⟩)), (.pointer (some ⟨g, 0, none⟩)), (.pointer (some ⟨g, 0, none⟩)), (.pointer (some ⟨g, 82, none⟩)), (.string (gS x.1)), (.pointer (some ⟨g, 0, none⟩)), (.pointer (some ⟨g, 0, none⟩)), (.pointer (some ⟨g, 164, none⟩)), (.string (gS x.2)), (.agg (aggT (txtP x)))], defers := [] } (by kernel_rfl) ?_
  refine (by assumption : ∀ (a : Act) (w_1 : World), Code.wp _ Code.ret _ a w_1 → _) _ _ ?_
  refine wp_ret ?_
  exact bodyPost_ret (results_cell_row Tryz.results24 _ _ w.heap.size _ _ _ _ rfl HE.out.out Tryz.underlying25 rfl Tryz.infoP) rfl ⟨rfl, HE.out.b⟩

set_option maxRecDepth 8000 in
set_option maxHeartbeats 4000000 in
theorem norm_any {gx n : Nat} {x : Pn} {p a b : Rw} {w : World} (hgx : w.heap[gx]? = some (.cells (triC p a b) 45 (0, 0))) (X : Tri n x p a b) (hx : InP2 n x) (hG : n < GB) :
    Calls Tryz.prog 20 #[.pointer (some ⟨gx, 0, none⟩)] w (RwPost (normP n x) w) := by
  obtain ⟨Z, hz, HZ⟩ := zero_limb
  have HZs := Lib.hid hz
  have H0 : Held w [(gx, triC p a b, 45)] := (Held.none w).cons hgx
  have HG0 := Lib.hid (begun1 H0 Z 41).drew
  have HS0 := Lib.hid HG0.out.h
  have FXA := Lib.hid (show ∀ w', Held w' [(gx, triC p a b, 45)] → (Instr.loadAt 41 (.pointer (some ⟨gx, 82, none⟩))).run Tryz.prog w' = .ok (.agg a.C) w' from fun w' hw => (X.rowA (hw _ (.head _))).loadL)
  have FXB := Lib.hid (show ∀ w', Held w' [(gx, triC p a b, 45)] → (Instr.loadAt 41 (.pointer (some ⟨gx, 164, none⟩))).run Tryz.prog w' = .ok (.agg b.C) w' from fun w' hw => (X.rowB (hw _ (.head _))).loadL)
  have h0 : 0 < n := Nat.lt_of_le_of_lt (Nat.zero_le _) hx.1
  have C1 := Lib.hid (show ∀ w', Held w' [(gx, triC p a b, 45)] → Calls Tryz.prog 53 #[.pointer (some ⟨gx, 0, none⟩), .agg a.C, .agg a.C] w' (RwPost (x.1 * x.1 % n) w') from fun w' hw => product_any (X.rowP (hw _ (.head _))) X.ha X.ha X.hp hx.1 hx.1 hG)
  have C2 := Lib.hid (show ∀ w', Held w' [(gx, triC p a b, 45)] → Calls Tryz.prog 53 #[.pointer (some ⟨gx, 0, none⟩), .agg b.C, .agg b.C] w' (RwPost (x.2 * x.2 % n) w') from fun w' hw => product_any (X.rowP (hw _ (.head _))) X.hb X.hb X.hp hx.2 hx.2 hG)
  have C3 := Lib.hid (show ∀ (r s : Rw) (w' : World), Held w' [(gx, triC p a b, 45)] → r.Ok (x.1 * x.1 % n) → s.Ok (x.2 * x.2 % n) → Calls Tryz.prog 52 #[.pointer (some ⟨gx, 0, none⟩), .agg r.C, .agg s.C] w' (RwPost (normP n x) w') from fun r s w' hw hr hs => sum_any (X.rowP (hw _ (.head _))) hr hs X.hp (Nat.mod_lt _ h0) (Nat.mod_lt _ h0) hG)
  clear hgx X hx hG hz H0 h0
  go_enter Tryz.func20, Tryz.ntmps20
  go_wp2_with fail
  generalize w.alloc _ = w0 at *
  refine wp_region_seq (S := fun w' => Held w' [(gx, triC p a b, 45)]) [⟨0, some 3, [0]⟩, ⟨1, some 4, [3]⟩, ⟨2, some 5, [4]⟩, ⟨0, some 6, [0]⟩, ⟨8, some 7, [6]⟩, ⟨16, some 8, [7]⟩, ⟨0, some 9, [0]⟩, ⟨64, some 10, [9]⟩, ⟨128, some 11, [10]⟩, ⟨256, some 12, [11]⟩, ⟨0, some 13, [0]⟩, ⟨1024, some 14, [13]⟩, ⟨2048, some 15, [14]⟩, ⟨4096, some 16, [15]⟩, ⟨8736, some 17, [8, 12, 16]⟩, ⟨0, some 18, [0]⟩, ⟨32768, some 19, [18]⟩, ⟨65536, some 20, [19]⟩, ⟨0, some 21, [0]⟩, ⟨262144, some 22, [21]⟩, ⟨524288, some 23, [22]⟩, ⟨1048576, some 24, [23]⟩, ⟨0, some 25, [0]⟩, ⟨4194304, some 26, [25]⟩, ⟨8388608, some 27, [26]⟩, ⟨16777216, some 28, [27]⟩, ⟨35799040, some 29, [20, 24, 28]⟩, ⟨67125252, some 30, [5, 17, 29]⟩, ⟨268435455, none, [2, 30]⟩] [(true, 0), (true, 1), (true, 2), (true, 3), (true, 4), (true, 5), (true, 6), (true, 7), (true, 8), (true, 9), (true, 10), (true, 11), (true, 12), (true, 13), (true, 15), (true, 16), (true, 17), (true, 18), (true, 19), (true, 20), (true, 21), (true, 22), (true, 23), (true, 24), (true, 25), (false, 14), (false, 26), (false, 27), (false, 28)] (by kernel_rfl) (by kernel_rfl) (by kernel_rfl) (by kernel_rfl) (by kernel_rfl) (by kernel_rfl) (fun d _ _ _ _ h => by cases d <;> exact h) HS0.out ?_
  refine sq_pure (some 3) (.pointer (some ⟨gx, 0, none⟩)) (by kernel_rfl) (by kernel_rfl) (fun _ => (by kernel_rfl)) ?_
  refine sq_pure (some 4) (.pointer (some ⟨gx, 0, none⟩)) (by kernel_rfl) (by kernel_rfl) (fun _ => (by kernel_rfl)) ?_
  refine sq_pure (some 5) (.pointer (some ⟨gx, 0, none⟩)) (by kernel_rfl) (by kernel_rfl) (fun _ => (by kernel_rfl)) ?_
  refine sq_pure (some 6) (.pointer (some ⟨gx, 0, none⟩)) (by kernel_rfl) (by kernel_rfl) (fun _ => (by kernel_rfl)) ?_
  refine sq_pure (some 7) (.pointer (some ⟨gx, 0, none⟩)) (by kernel_rfl) (by kernel_rfl) (fun _ => (by kernel_rfl)) ?_
  refine sq_pure (some 8) (.pointer (some ⟨gx, 0, none⟩)) (by kernel_rfl) (by kernel_rfl) (fun _ => (by kernel_rfl)) ?_
  refine sq_pure (some 9) (.pointer (some ⟨gx, 0, none⟩)) (by kernel_rfl) (by kernel_rfl) (fun _ => (by kernel_rfl)) ?_
  refine sq_pure (some 10) (.pointer (some ⟨gx, 0, none⟩)) (by kernel_rfl) (by kernel_rfl) (fun _ => (by kernel_rfl)) ?_
  refine sq_pure (some 11) (.pointer (some ⟨gx, 82, none⟩)) (by kernel_rfl) (by kernel_rfl) (fun _ => (by kernel_rfl)) ?_
  refine sq_held (some 12) (.agg a.C) (by kernel_rfl) (by kernel_rfl) (held_load 41 (.tmp 11) (by kernel_rfl) _ _ (by kernel_rfl) FXA.out) ?_
  refine sq_pure (some 13) (.pointer (some ⟨gx, 0, none⟩)) (by kernel_rfl) (by kernel_rfl) (fun _ => (by kernel_rfl)) ?_
  refine sq_pure (some 14) (.pointer (some ⟨gx, 0, none⟩)) (by kernel_rfl) (by kernel_rfl) (fun _ => (by kernel_rfl)) ?_
  refine sq_pure (some 15) (.pointer (some ⟨gx, 82, none⟩)) (by kernel_rfl) (by kernel_rfl) (fun _ => (by kernel_rfl)) ?_
  refine sq_held (some 16) (.agg a.C) (by kernel_rfl) (by kernel_rfl) (held_load 41 (.tmp 15) (by kernel_rfl) _ _ (by kernel_rfl) FXA.out) ?_
  refine sq_pure (some 18) (.pointer (some ⟨gx, 0, none⟩)) (by kernel_rfl) (by kernel_rfl) (fun _ => (by kernel_rfl)) ?_
  refine sq_pure (some 19) (.pointer (some ⟨gx, 0, none⟩)) (by kernel_rfl) (by kernel_rfl) (fun _ => (by kernel_rfl)) ?_
  refine sq_pure (some 20) (.pointer (some ⟨gx, 0, none⟩)) (by kernel_rfl) (by kernel_rfl) (fun _ => (by kernel_rfl)) ?_
  refine sq_pure (some 21) (.pointer (some ⟨gx, 0, none⟩)) (by kernel_rfl) (by kernel_rfl) (fun _ => (by kernel_rfl)) ?_
  refine sq_pure (some 22) (.pointer (some ⟨gx, 0, none⟩)) (by kernel_rfl) (by kernel_rfl) (fun _ => (by kernel_rfl)) ?_
  refine sq_pure (some 23) (.pointer (some ⟨gx, 164, none⟩)) (by kernel_rfl) (by kernel_rfl) (fun _ => (by kernel_rfl)) ?_
  refine sq_held (some 24) (.agg b.C) (by kernel_rfl) (by kernel_rfl) (held_load 41 (.tmp 23) (by kernel_rfl) _ _ (by kernel_rfl) FXB.out) ?_
  refine sq_pure (some 25) (.pointer (some ⟨gx, 0, none⟩)) (by kernel_rfl) (by kernel_rfl) (fun _ => (by kernel_rfl)) ?_
  refine sq_pure (some 26) (.pointer (some ⟨gx, 0, none⟩)) (by kernel_rfl) (by kernel_rfl) (fun _ => (by kernel_rfl)) ?_
  refine sq_pure (some 27) (.pointer (some ⟨gx, 164, none⟩)) (by kernel_rfl) (by kernel_rfl) (fun _ => (by kernel_rfl)) ?_
  refine sq_held (some 28) (.agg b.C) (by kernel_rfl) (by kernel_rfl) (held_load 41 (.tmp 27) (by kernel_rfl) _ _ (by kernel_rfl) FXB.out) ?_
  refine sq_fn (some 17) [.pointer (some ⟨gx, 0, none⟩), .agg a.C, .agg a.C] Tryz.func53 (by kernel_rfl) (by kernel_rfl) (by kernel_rfl) (by kernel_rfl) (by kernel_rfl) (by kernel_rfl) ?_
  refine ((C1.out _ HS0.out)).mono ?_
  rintro e w1 ⟨r1, rfl, hr1, bw1⟩
  have HG1 := Lib.hid (HG0.out.on bw1)
  have HS1 := Lib.hid HG1.out.h
  refine ⟨_, rfl, HS1.out, ?_⟩
  refine sq_fn (some 29) [.pointer (some ⟨gx, 0, none⟩), .agg b.C, .agg b.C] Tryz.func53 (by kernel_rfl) (by kernel_rfl) (by kernel_rfl) (by kernel_rfl) (by kernel_rfl) (by kernel_rfl) ?_
  refine ((C2.out _ HS1.out)).mono ?_
  rintro e w2 ⟨r2, rfl, hr2, bw2⟩
  have HG2 := Lib.hid (HG1.out.on bw2)
  have HS2 := Lib.hid HG2.out.h
  refine ⟨_, rfl, HS2.out, ?_⟩
  refine sq_fn (some 30) [.pointer (some ⟨gx, 0, none⟩), .agg r1.C, .agg r2.C] Tryz.func52 (by kernel_rfl) (by kernel_rfl) (by kernel_rfl) (by kernel_rfl) (by kernel_rfl) (by kernel_rfl) ?_
  refine ((C3.out _ _ _ HS2.out hr1 hr2)).mono ?_
  rintro e w3 ⟨r3, rfl, hr3, bw3⟩
  have HG3 := Lib.hid (HG2.out.on bw3)
  have HS3 := Lib.hid HG3.out.h
  refine ⟨_, rfl, HS3.out, ?_⟩
  refine sq_store 41 (.tmp 2) (.tmp 30) w.heap.size _ (r3.C) (by kernel_rfl) (by kernel_rfl) (by kernel_rfl) (by kernel_rfl) (by kernel_rfl) (by kernel_rfl) HG3.out.out (by rw [hr3.size]; exact Tryz.infoLimb) (HZs.out.trans hr3.size.symm) (rowC_one _ _) (HS3.out.setRow HG3.out.ne) ?_
  have HE := Lib.hid (HG3.out.put (by omega) r3.C)
  have HR := Lib.hid hr3
  clear HG3 HS3
  refine sq_fin { tmps := #[(.pointer (some ⟨gx, 0, none⟩)), undef, (.pointer (some ⟨w.heap.size, 0, none⟩)), (.pointer (some ⟨gx, 0, none⟩)), (.pointer (some ⟨gx, 0, none⟩)), (.pointer (some ⟨gx, 0, none⟩)), (.pointer (some ⟨gx, 0, none⟩)), (.pointer (some ⟨gx, 0, none⟩)), (.pointer (some ⟨gx, 0, none⟩)), (.pointer (some ⟨gx, 0, none⟩)), (.pointer (some ⟨gx, 0, none⟩)), (.pointer (some ⟨gx, 82, none⟩)), (.agg a.C), (.pointer (some ⟨gx, 0, none⟩)), (.pointer (some ⟨gx, 0, none⟩)), (.pointer (some ⟨gx, 82, none⟩)), (.agg a.C), (.agg r1.C), (.pointer (some ⟨gx, 0, none⟩)), (.pointer (some ⟨gx, 0, none⟩)), (.pointer (some ⟨gx, 0, none⟩)), (.pointer (some ⟨gx, 0, none⟩)), (.pointer (some ⟨gx, 0, none⟩)), (.pointer (some ⟨gx, 164, none⟩)), (.agg b.C), (.pointer (some ⟨gx, 0, none⟩)), (.pointer (some ⟨gx, 0, none⟩)), (.pointer (some ⟨gx, 164, none⟩)), (.agg b.C), (.agg r2.C), (.agg r3.C)], defers := [] } (by kernel_rfl) ?_
  refine (by assumption : ∀ (a : Act) (w_1 : World), Code.wp _ Code.ret _ a w_1 → _) _ _ ?_
  refine wp_ret ?_
  exact bodyPost_ret (results_cell_row Tryz.results20 _ _ (w.heap.size) _ _ _ _ rfl HE.out.out Tryz.underlying41 rfl (by rw [HR.out.size]; exact Tryz.infoLimb)) rfl ⟨r3, rfl, HR.out, HE.out.b⟩

set_option maxRecDepth 8000 in
set_option maxHeartbeats 4000000 in
theorem other_any {gx n : Nat} {x : Pn} {p a b : Rw} {w : World} (hgx : w.heap[gx]? = some (.cells (triC p a b) 45 (0, 0))) (X : Tri n x p a b) (hx : InP2 n x) (hG : n < GB) :
    Calls Tryz.prog 22 #[.pointer (some ⟨gx, 0, none⟩)] w (TriPost n (otherP n x) w) := by
  obtain ⟨Z, hz, HZ⟩ := zero_tri
  have HZs := Lib.hid hz
  have HX := Lib.hid X
  have H0 : Held w [(gx, triC p a b, 45)] := (Held.none w).cons hgx
  have HG0 := Lib.hid (begun1 H0 Z 45).drew
  have HS0 := Lib.hid HG0.out.h
  have FXA := Lib.hid (show ∀ w', Held w' [(gx, triC p a b, 45)] → (Instr.loadAt 41 (.pointer (some ⟨gx, 82, none⟩))).run Tryz.prog w' = .ok (.agg a.C) w' from fun w' hw => (X.rowA (hw _ (.head _))).loadL)
  have FXB := Lib.hid (show ∀ w', Held w' [(gx, triC p a b, 45)] → (Instr.loadAt 41 (.pointer (some ⟨gx, 164, none⟩))).run Tryz.prog w' = .ok (.agg b.C) w' from fun w' hw => (X.rowB (hw _ (.head _))).loadL)
  have h0 : 0 < n := Nat.lt_of_le_of_lt (Nat.zero_le _) hx.1
  have C1 := Lib.hid (show ∀ w', Held w' [(gx, triC p a b, 45)] → Calls Tryz.prog 54 #[.pointer (some ⟨gx, 0, none⟩), .agg zRw.C, .agg b.C] w' (RwPost ((0 + n - x.2) % n) w') from fun w' hw => difference_any (X.rowP (hw _ (.head _))) zRw_ok X.hb X.hp h0 hx.2 hG)
  clear hgx X hx hG hz H0 h0
  go_enter Tryz.func22, Tryz.ntmps22
  go_wp2_with fail
  generalize w.alloc _ = w0 at *
  refine wp_region_seq (S := fun w' => Held w' [(gx, triC p a b, 45)]) [⟨0, some 3, [0]⟩, ⟨0, some 4, [0]⟩, ⟨2, some 5, [4]⟩, ⟨4, some 6, [5]⟩, ⟨8, some 7, [6]⟩, ⟨0, some 8, [0]⟩, ⟨32, some 9, [8]⟩, ⟨64, some 10, [9]⟩, ⟨0, some 11, []⟩, ⟨0, some 12, [0]⟩, ⟨512, some 13, [12]⟩, ⟨1024, some 14, [13]⟩, ⟨2048, some 15, [14]⟩, ⟨4480, some 16, [10, 11, 15]⟩, ⟨8209, some 17, [3, 7, 16]⟩, ⟨32767, none, [2, 17]⟩] [(true, 0), (true, 1), (true, 2), (true, 3), (true, 4), (true, 5), (true, 6), (true, 7), (true, 8), (true, 9), (true, 10), (true, 11), (true, 12), (false, 13), (false, 14), (false, 15)] (by kernel_rfl) (by kernel_rfl) (by kernel_rfl) (by kernel_rfl) (by kernel_rfl) (by kernel_rfl) (fun d _ _ _ _ h => by cases d <;> exact h) HS0.out ?_
  refine sq_pure (some 3) (.pointer (some ⟨gx, 0, none⟩)) (by kernel_rfl) (by kernel_rfl) (fun _ => (by kernel_rfl)) ?_
  refine sq_pure (some 4) (.pointer (some ⟨gx, 0, none⟩)) (by kernel_rfl) (by kernel_rfl) (fun _ => (by kernel_rfl)) ?_
  refine sq_pure (some 5) (.pointer (some ⟨gx, 0, none⟩)) (by kernel_rfl) (by kernel_rfl) (fun _ => (by kernel_rfl)) ?_
  refine sq_pure (some 6) (.pointer (some ⟨gx, 82, none⟩)) (by kernel_rfl) (by kernel_rfl) (fun _ => (by kernel_rfl)) ?_
  refine sq_held (some 7) (.agg a.C) (by kernel_rfl) (by kernel_rfl) (held_load 41 (.tmp 6) (by kernel_rfl) _ _ (by kernel_rfl) FXA.out) ?_
  refine sq_pure (some 8) (.pointer (some ⟨gx, 0, none⟩)) (by kernel_rfl) (by kernel_rfl) (fun _ => (by kernel_rfl)) ?_
  refine sq_pure (some 9) (.pointer (some ⟨gx, 0, none⟩)) (by kernel_rfl) (by kernel_rfl) (fun _ => (by kernel_rfl)) ?_
  refine sq_pure (some 10) (.pointer (some ⟨gx, 0, none⟩)) (by kernel_rfl) (by kernel_rfl) (fun _ => (by kernel_rfl)) ?_
  refine sq_pure (some 11) (.agg zRw.C) (by kernel_rfl) (by kernel_rfl) (held_build 41 #[] (by kernel_rfl) _ (by kernel_rfl) _ built_limb) ?_
  refine sq_pure (some 12) (.pointer (some ⟨gx, 0, none⟩)) (by kernel_rfl) (by kernel_rfl) (fun _ => (by kernel_rfl)) ?_
  refine sq_pure (some 13) (.pointer (some ⟨gx, 0, none⟩)) (by kernel_rfl) (by kernel_rfl) (fun _ => (by kernel_rfl)) ?_
  refine sq_pure (some 14) (.pointer (some ⟨gx, 164, none⟩)) (by kernel_rfl) (by kernel_rfl) (fun _ => (by kernel_rfl)) ?_
  refine sq_held (some 15) (.agg b.C) (by kernel_rfl) (by kernel_rfl) (held_load 41 (.tmp 14) (by kernel_rfl) _ _ (by kernel_rfl) FXB.out) ?_
  refine sq_fn (some 16) [.pointer (some ⟨gx, 0, none⟩), .agg zRw.C, .agg b.C] Tryz.func54 (by kernel_rfl) (by kernel_rfl) (by kernel_rfl) (by kernel_rfl) (by kernel_rfl) (by kernel_rfl) ?_
  refine ((C1.out _ HS0.out)).mono ?_
  rintro e w1 ⟨r1, rfl, hr1, bw1⟩
  have HG1 := Lib.hid (HG0.out.on bw1)
  have HS1 := Lib.hid HG1.out.h
  refine ⟨_, rfl, HS1.out, ?_⟩
  refine sq_fn (some 17) [.pointer (some ⟨gx, 0, none⟩), .agg a.C, .agg r1.C] Tryz.func21 (by kernel_rfl) (by kernel_rfl) (by kernel_rfl) (by kernel_rfl) (by kernel_rfl) (by kernel_rfl) ?_
  refine (with_any (y := otherP n x) (HS1.out _ (.head _)) HX.out HX.out.ha hr1).mono ?_
  rintro e w2 ⟨p3, a3, b3, rfl, T3, bw2⟩
  have HG2 := Lib.hid (HG1.out.on bw2)
  have HS2 := Lib.hid HG2.out.h
  refine ⟨_, rfl, HS2.out, ?_⟩
  refine sq_store 45 (.tmp 2) (.tmp 17) w.heap.size _ (triC p3 a3 b3) (by kernel_rfl) (by kernel_rfl) (by kernel_rfl) (by kernel_rfl) (by kernel_rfl) (by kernel_rfl) HG2.out.out (by rw [T3.size]; exact Tryz.infoTri) (HZs.out.trans T3.size.symm) (tri_one _ _ _) (HS2.out.setRow HG2.out.ne) ?_
  have HE := Lib.hid (HG2.out.put (by omega) (triC p3 a3 b3))
  clear HG2 HS2
  refine sq_fin { tmps := #[(.pointer (some ⟨gx, 0, none⟩)), undef, (.pointer (some ⟨w.heap.size, 0, none⟩)), (.pointer (some ⟨gx, 0, none⟩)), (.pointer (some ⟨gx, 0, none⟩)), (.pointer (some ⟨gx, 0, none⟩)), (.pointer (some ⟨gx, 82, none⟩)), (.agg a.C), (.pointer (some ⟨gx, 0, none⟩)), (.pointer (some ⟨gx, 0, none⟩)), (.pointer (some ⟨gx, 0, none⟩)), (.agg zRw.C), (.pointer (some ⟨gx, 0, none⟩)), (.pointer (some ⟨gx, 0, none⟩)), (.pointer (some ⟨gx, 164, none⟩)), (.agg b.C), (.agg r1.C), (.agg (triC p3 a3 b3))], defers := [] } (by kernel_rfl) ?_
  refine (by assumption : ∀ (a : Act) (w_1 : World), Code.wp _ Code.ret _ a w_1 → _) _ _ ?_
  refine wp_ret ?_
  exact bodyPost_ret (results_cell_row Tryz.results22 _ _ (w.heap.size) _ _ _ _ rfl HE.out.out Tryz.underlying45 rfl (by rw [T3.size]; exact Tryz.infoTri)) rfl ⟨p3, a3, b3, rfl, T3, HE.out.b⟩

set_option maxRecDepth 8000 in
set_option maxHeartbeats 4000000 in
theorem pairOf_any (x : Pt) (p : ByteArray) (w : World) (s1 : x.1.size ≤ 160) (s2 : x.2.size ≤ 160) (sp : p.size ≤ 160) :
    Calls Tryz.prog 18 #[.agg (aggT x), .string p] w (TriPost (gV p) (valP x) w) := by
  obtain ⟨Z, hz, HZ⟩ := zero_tri
  have HZs := Lib.hid hz
  have HG0 := Lib.hid (begun2 (Held.none w) (aggT x) Z 25 45).drew
  have HS0 := Lib.hid HG0.out.h
  have FA := Lib.hid (show ∀ w', Held w' [(w.heap.size, aggT x, 25)] → (Instr.loadAt 9 (.pointer (some ⟨w.heap.size, 0, none⟩))).run Tryz.prog w' = .ok (.string x.1) w' from fun w' hw => str_load (agg_cells (hw _ (.head _))).1)
  have FB := Lib.hid (show ∀ w', Held w' [(w.heap.size, aggT x, 25)] → (Instr.loadAt 9 (.pointer (some ⟨w.heap.size, 1, none⟩))).run Tryz.prog w' = .ok (.string x.2) w' from fun w' hw => str_load (agg_cells (hw _ (.head _))).2)
  have C1 := Lib.hid (rowR_any p sp)
  have C2 := Lib.hid (rowR_any x.1 s1)
  have C3 := Lib.hid (rowR_any x.2 s2)
  clear s1 s2 sp hz
  go_enter Tryz.func18, Tryz.ntmps18
  go_wp2_with fail
  generalize (w.alloc _).alloc _ = w0 at *
  refine wp_region_seq (S := fun w' => Held w' [(w.heap.size, aggT x, 25)]) [⟨0, some 5, [1]⟩, ⟨1, some 6, [5]⟩, ⟨2, some 7, [6]⟩, ⟨0, some 8, [2]⟩, ⟨8, some 9, [8]⟩, ⟨18, some 10, [9]⟩, ⟨0, some 11, [2]⟩, ⟨64, some 12, [11]⟩, ⟨160, some 13, [12]⟩, ⟨292, some 14, [7, 10, 13]⟩, ⟨1023, none, [4, 14]⟩] [(true, 0), (true, 3), (true, 4), (true, 6), (true, 7), (false, 1), (true, 2), (false, 5), (false, 8), (true, 9), (false, 10)] (by kernel_rfl) (by kernel_rfl) (by kernel_rfl) (by kernel_rfl) (by kernel_rfl) (by kernel_rfl) (fun d _ _ _ _ h => by cases d <;> exact h) HS0.out ?_
  refine sq_pure (some 5) (.string p) (by kernel_rfl) (by kernel_rfl) (fun _ => (by kernel_rfl)) ?_
  refine sq_pure (some 8) (.pointer (some ⟨w.heap.size, 0, none⟩)) (by kernel_rfl) (by kernel_rfl) (fun _ => (by kernel_rfl)) ?_
  refine sq_held (some 9) (.string x.1) (by kernel_rfl) (by kernel_rfl) (held_load 9 (.tmp 8) (by kernel_rfl) _ _ (by kernel_rfl) FA.out) ?_
  refine sq_pure (some 11) (.pointer (some ⟨w.heap.size, 1, none⟩)) (by kernel_rfl) (by kernel_rfl) (fun _ => (by kernel_rfl)) ?_
  refine sq_held (some 12) (.string x.2) (by kernel_rfl) (by kernel_rfl) (held_load 9 (.tmp 11) (by kernel_rfl) _ _ (by kernel_rfl) FB.out) ?_
  refine sq_fn (some 6) [.string p] Tryz.func50 (by kernel_rfl) (by kernel_rfl) (by kernel_rfl) (by kernel_rfl) (by kernel_rfl) (by kernel_rfl) ?_
  refine (C1.out _).mono ?_
  rintro e w1 ⟨r1, rfl, hr1, bw1⟩
  have HG1 := Lib.hid (HG0.out.on bw1)
  have HS1 := Lib.hid HG1.out.h
  refine ⟨_, rfl, HS1.out, ?_⟩
  refine sq_pure (some 7) (.agg r1.C) (by kernel_rfl) (by kernel_rfl) (held_build 43 #[(0, (.tmp 6))] (by kernel_rfl) _ (by kernel_rfl) _ (built_prime hr1)) ?_
  refine sq_fn (some 10) [.string x.1] Tryz.func50 (by kernel_rfl) (by kernel_rfl) (by kernel_rfl) (by kernel_rfl) (by kernel_rfl) (by kernel_rfl) ?_
  refine (C2.out _).mono ?_
  rintro e w2 ⟨r2, rfl, hr2, bw2⟩
  have HG2 := Lib.hid (HG1.out.on bw2)
  have HS2 := Lib.hid HG2.out.h
  refine ⟨_, rfl, HS2.out, ?_⟩
  refine sq_fn (some 13) [.string x.2] Tryz.func50 (by kernel_rfl) (by kernel_rfl) (by kernel_rfl) (by kernel_rfl) (by kernel_rfl) (by kernel_rfl) ?_
  refine (C3.out _).mono ?_
  rintro e w3 ⟨r3, rfl, hr3, bw3⟩
  have T3 := Lib.hid (Tri.mk (x := valP x) hr1 hr2 hr3)
  have HG3 := Lib.hid (HG2.out.on bw3)
  have HS3 := Lib.hid HG3.out.h
  refine ⟨_, rfl, HS3.out, ?_⟩
  refine sq_pure (some 14) (.agg (triC r1 r2 r3)) (by kernel_rfl) (by kernel_rfl) (held_build 45 #[(0, (.tmp 7)), (1, (.tmp 10)), (2, (.tmp 13))] (by kernel_rfl) _ (by kernel_rfl) _ (built_tri T3.out)) ?_
  refine sq_store 45 (.tmp 4) (.tmp 14) (w.heap.size + 1) _ (triC r1 r2 r3) (by kernel_rfl) (by kernel_rfl) (by kernel_rfl) (by kernel_rfl) (by kernel_rfl) (by kernel_rfl) HG3.out.out (by rw [T3.out.size]; exact Tryz.infoTri) (HZs.out.trans T3.out.size.symm) (tri_one _ _ _) (HS3.out.setRow HG3.out.ne) ?_
  have HE := Lib.hid (HG3.out.put (by omega) (triC r1 r2 r3))
  clear HG3 HS3
  refine sq_fin { tmps := #[(.agg (aggT x)), (.string p), (.pointer (some ⟨w.heap.size, 0, none⟩)), undef, (.pointer (some ⟨(w.heap.size + 1), 0, none⟩)), (.string p), (.agg r1.C), (.agg r1.C), (.pointer (some ⟨w.heap.size, 0, none⟩)), (.string x.1), (.agg r2.C), (.pointer (some ⟨w.heap.size, 1, none⟩)), (.string x.2), (.agg r3.C), (.agg (triC r1 r2 r3))], defers := [] } (by kernel_rfl) ?_
  refine (by assumption : ∀ (a : Act) (w_1 : World), Code.wp _ Code.ret _ a w_1 → _) _ _ ?_
  refine wp_ret ?_
  exact bodyPost_ret (results_cell_row Tryz.results18 _ _ ((w.heap.size + 1)) _ _ _ _ rfl HE.out.out Tryz.underlying45 rfl (by rw [T3.out.size]; exact Tryz.infoTri)) rfl ⟨r1, r2, r3, rfl, T3.out, HE.out.b⟩
end Go.Proofs.YtflfeepgkcamnaaGreat

import Derived.Test.YtdajgcgliidjbaaGreatYSpec
import Derived.Test.YtdajgcgliidjbaaGreatJHalf
import Derived.Test.YtdajgcgliidjbaaGreatJPairC
set_option maxRecDepth 8000
set_option maxHeartbeats 8000000
namespace Go.Proofs.YtdajgcgliidjbaaGreat
open Go.RowKit
theorem curveOf_i (id : Int) (w : World) : Calls Tryz.prog 35 #[.int .i64 id] w fun e w' => e = .returned (.tuple #[.agg (cvC id), .bool (cvB id)]) ∧ Below w.heap.size w w' := by
 have hb2 : ∀ A B : Obj, Below w.heap.size w ((w.alloc A).alloc B) := fun A B => ((Below.refl w.heap.size w).alloc (Nat.le_refl _) A).alloc (by simp) B
 by_cases h1 : id = 1
 ·subst h1
  skip
  have HR := Lib.hid (fun (tmps : Array Value) (B : Obj) => cv_result2 (w := (w.alloc (.cells cv1 35)).alloc B) (heap_alloc2_old w (.cells cv1 35) B) rfl Tryz.results35 tmps)
  go_enter Tryz.func35, Tryz.ntmps35
  go_wp2
  exact bodyPost_ret (HR.out _ _ rfl) rfl ⟨rfl, hb2 _ _⟩
 by_cases h2 : id = 2
 ·subst h2
  clear h1
  have HR := Lib.hid (fun (tmps : Array Value) (B : Obj) => cv_result2 (w := (w.alloc (.cells cv2 35)).alloc B) (heap_alloc2_old w (.cells cv2 35) B) rfl Tryz.results35 tmps)
  go_enter Tryz.func35, Tryz.ntmps35
  go_wp2
  exact bodyPost_ret (HR.out _ _ rfl) rfl ⟨rfl, hb2 _ _⟩
 by_cases h3 : id = 3
 ·subst h3
  clear h1 h2
  have HR := Lib.hid (fun (tmps : Array Value) (B : Obj) => cv_result2 (w := (w.alloc (.cells cv3 35)).alloc B) (heap_alloc2_old w (.cells cv3 35) B) rfl Tryz.results35 tmps)
  go_enter Tryz.func35, Tryz.ntmps35
  go_wp2
  exact bodyPost_ret (HR.out _ _ rfl) rfl ⟨rfl, hb2 _ _⟩
 by_cases h4 : id = 4
 ·subst h4
  clear h1 h2 h3
  have HR := Lib.hid (fun (tmps : Array Value) (B : Obj) => cv_result2 (w := (w.alloc (.cells cv4 35)).alloc B) (heap_alloc2_old w (.cells cv4 35) B) rfl Tryz.results35 tmps)
  go_enter Tryz.func35, Tryz.ntmps35
  go_wp2
  exact bodyPost_ret (HR.out _ _ rfl) rfl ⟨rfl, hb2 _ _⟩
 have e : cvC id = cv0 := by unfold cvC; rw [if_neg h1, if_neg h2, if_neg h3, if_neg h4]
 have e2 : cvB id = false := by
  cases hq : cvB id with
  | false => rfl
  | true => rcases four_ids hq with h | h | h | h <;> contradiction
 rw [e, e2]
 have q1 : (id == 1) = false := by simpa using h1
 have q2 : (id == 2) = false := by simpa using h2
 have q3 : (id == 3) = false := by simpa using h3
 have q4 : (id == 4) = false := by simpa using h4
 have HR := Lib.hid (fun (tmps : Array Value) (B : Obj) => cv_result2 (w := (w.alloc (.cells cv0 35)).alloc B) (heap_alloc2_old w (.cells cv0 35) B) rfl Tryz.results35 tmps)
 clear h1 h2 h3 h4 e e2
 go_enter Tryz.func35, Tryz.ntmps35
 go_wp2
 exact bodyPost_ret (HR.out _ _ rfl) rfl ⟨rfl, hb2 _ _⟩
theorem cubeAndPair_i (id : Int) (x : Pt) (w : World) : Calls Tryz.prog 40 #[.int .i64 id, .agg (aggT x)] w fun e w' => e = .returned (.agg (aggT (cube2G id x))) ∧ Below w.heap.size w w' := by
 have HK := Lib.hid (curveOf_i id)
 have HC := Lib.hid (cv_in id)
 have HO := Lib.hid (pairOk_i x (cvPT id))
 have HG0 := Lib.hid (begun2 (Held.none w) (aggT x) #[.string ⟨#[]⟩, .string ⟨#[]⟩] 25 25)
 have hge : w.heap.size ≤ w.heap.size + 1 := Nat.le_succ _
 have HGe := Lib.hid hge
 clear hge
 cases hb : cvB id with
 | false =>
  rw [hb] at HK
  rw [cube2_no (by rw [hb]; rfl)]
  clear hb HO
  generalize cvC id = C at *
  go_enter Tryz.func40, Tryz.ntmps40
  go_wp2_with fail
  generalize (w.alloc _).alloc _ = w0 at *
  refine (HK.out _).mono ?_
  rintro e w1 ⟨rfl, b1⟩
  have HG1 := Lib.hid (HG0.out.on b1)
  have V := Lib.hid (cv_var' w1 HC.out.size)
  have HG2 := Lib.hid ((HG1.out.new cv0 35).putAt HG1.out.b.size HG1.out.h.apart C)
  clear b1 HK HG0 HG1
  have HE := Lib.hid (HG2.out.put HGe.out (aggT noP))
  go_wp2_with (first | refine cv_store rfl (.tmp 5) (.tmp 11) rfl w1.heap.size cv0 C rfl rfl V.out.at0 rfl HC.out.size HC.out.one ?_ | refine store_p rfl (.tmp 4) (.tmp 22) rfl (w.heap.size + 1) _ noP rfl rfl HG2.out.out rfl ?_)
  exact bodyPost_ret (results_cell_row Tryz.results40 _ _ (w.heap.size + 1) _ _ _ _ rfl HE.out.out Tryz.underlying25 rfl Tryz.infoP) rfl ⟨rfl, HE.out.b⟩
 | true =>
 rw [hb] at HK
 cases hr : pairB x (cvPT id) with
 | false =>
  rw [hr] at HO
  rw [cube2_no (by rw [hb, hr]; rfl)]
  clear hb hr
  generalize cvC id = C at *
  generalize cvNT id = tn at *
  generalize cvRT id = tr at *
  generalize cvSz id = sz at *
  generalize cvPT id = tp at *
  generalize cvBT id = tb at *
  generalize cvKT id = tk at *
  go_enter Tryz.func40, Tryz.ntmps40
  go_wp2_with fail
  generalize (w.alloc _).alloc _ = w0 at *
  refine (HK.out _).mono ?_
  rintro e w1 ⟨rfl, b1⟩
  have HG1 := Lib.hid (HG0.out.on b1)
  have V := Lib.hid (cv_var' w1 HC.out.size)
  have HG2 := Lib.hid ((HG1.out.new cv0 35).putAt HG1.out.b.size HG1.out.h.apart C)
  clear b1 HK HG0 HG1
  obtain ⟨_, c1, _⟩ := HC.out.cells _ _ V.out.at1
  obtain ⟨d1, d2⟩ := agg_cells (show _ = some (Obj.cells (aggT x) 25 (0, 0)) from HG2.out.h (w.heap.size, aggT x, 25) (.tail _ (.head _)))
  go_wp2_with (first | refine cv_store rfl (.tmp 5) (.tmp 11) rfl w1.heap.size cv0 C rfl rfl V.out.at0 rfl HC.out.size HC.out.one ?_)
  generalize (w1.alloc _).setRow _ _ = wv at *
  refine (HO.out _).mono ?_
  rintro e w2 ⟨rfl, b2⟩
  have HG3 := Lib.hid (HG2.out.on b2)
  have HE := Lib.hid (HG3.out.put HGe.out (aggT noP))
  clear b2 HG2 c1 d1 d2 V HO
  go_wp2_with (first | refine store_p rfl (.tmp 4) (.tmp 22) rfl (w.heap.size + 1) _ noP rfl rfl HG3.out.out rfl ?_)
  exact bodyPost_ret (results_cell_row Tryz.results40 _ _ (w.heap.size + 1) _ _ _ _ rfl HE.out.out Tryz.underlying25 rfl Tryz.infoP) rfl ⟨rfl, HE.out.b⟩
 | true =>
  rw [hr] at HO
  rw [show cube2G id x = addPG (mulPG (mulPG x x (cvPT id)) x (cvPT id)) (cvKT id) (cvPT id) by unfold cube2G; rw [hb, hr]; rfl]
  clear hb hr
  generalize cvC id = C at *
  generalize cvNT id = tn at *
  generalize cvRT id = tr at *
  generalize cvSz id = sz at *
  generalize cvPT id = tp at *
  generalize cvBT id = tb at *
  generalize cvKT id = tk at *
  have M1 := Lib.hid (mulPair_i x x tp)
  generalize mulPG x x tp = s1 at *
  have M2 := Lib.hid (mulPair_i s1 x tp)
  generalize mulPG s1 x tp = s2 at *
  have M3 := Lib.hid (addPair_i s2 tk tp)
  generalize addPG s2 tk tp = s3 at *
  go_enter Tryz.func40, Tryz.ntmps40
  go_wp2_with fail
  generalize (w.alloc _).alloc _ = w0 at *
  refine (HK.out _).mono ?_
  rintro e w1 ⟨rfl, b1⟩
  have HG1 := Lib.hid (HG0.out.on b1)
  have V := Lib.hid (cv_var' w1 HC.out.size)
  have HG2 := Lib.hid ((HG1.out.new cv0 35).putAt HG1.out.b.size HG1.out.h.apart C)
  clear b1 HK HG0 HG1
  obtain ⟨_, c1, _⟩ := HC.out.cells _ _ V.out.at1
  obtain ⟨d1, d2⟩ := agg_cells (show _ = some (Obj.cells (aggT x) 25 (0, 0)) from HG2.out.h (w.heap.size, aggT x, 25) (.tail _ (.head _)))
  go_wp2_with (first | refine cv_store rfl (.tmp 5) (.tmp 11) rfl w1.heap.size cv0 C rfl rfl V.out.at0 rfl HC.out.size HC.out.one ?_)
  clear c1 d1 d2 V
  generalize (w1.alloc _).setRow _ _ = wv at *
  generalize w1.heap.size = g at *
  refine (HO.out _).mono ?_
  rintro e w2 ⟨rfl, b2⟩
  have HG3 := Lib.hid (HG2.out.on b2)
  clear b2 HG2 HO
  have HX3 := Lib.hid (show _ = some (Obj.cells (aggT x) 25 (0, 0)) from HG3.out.h (w.heap.size, aggT x, 25) (.tail _ (.head _)))
  obtain ⟨_, c1, _⟩ := HC.out.cells _ _ (show _ = some (Obj.cells C 35 (0, 0)) from HG3.out.h (g, C, 35) (.head _))
  go_wp2_with (first | refine load_p rfl (.tmp 3) rfl w.heap.size x rfl HX3.out ?_)
  refine (M1.out _).mono ?_
  rintro e w3 ⟨rfl, b3⟩
  have HG4 := Lib.hid (HG3.out.on b3)
  have HN4 := Lib.hid (heap_alloc_new w3 (.cells #[.string ⟨#[]⟩, .string ⟨#[]⟩] 25))
  have HG5 := Lib.hid ((HG4.out.new #[.string ⟨#[]⟩, .string ⟨#[]⟩] 25).putAt HG4.out.b.size HG4.out.h.apart (aggT s1)).drew
  clear b3 c1 HX3 HG3 HG4 M1
  go_wp2_with (first | refine store_p rfl (.tmp 7) (.tmp 27) rfl w3.heap.size _ s1 rfl rfl HN4.out rfl ?_)
  clear HN4
  generalize (w3.alloc _).setRow _ _ = w4 at *
  generalize w3.heap.size = gs at *
  have HS5 := Lib.hid HG5.out.h
  have FS := Lib.hid (show ∀ w', Held w' ((gs, aggT s1, 25) :: (g, C, 35) :: (w.heap.size, aggT x, 25) :: []) → (Instr.loadAt 25 (.pointer (some ⟨gs, 0, none⟩))).run Tryz.prog w' = .ok (.agg (aggT s1)) w' from fun w' hw => pair_load (show _ = some (Obj.cells (aggT s1) 25 (0, 0)) from hw (gs, aggT s1, 25) (by simp)))
  have FP := Lib.hid (show ∀ w', Held w' ((gs, aggT s1, 25) :: (g, C, 35) :: (w.heap.size, aggT x, 25) :: []) → (Instr.loadAt 9 (.pointer (some ⟨g, 1, none⟩))).run Tryz.prog w' = .ok (.string tp) w' from fun w' hw => (HC.out.strs (show _ = some (Obj.cells C 35 (0, 0)) from hw (g, C, 35) (by simp))).2.1)
  have FK := Lib.hid (show ∀ w', Held w' ((gs, aggT s1, 25) :: (g, C, 35) :: (w.heap.size, aggT x, 25) :: []) → (Instr.loadAt 25 (.pointer (some ⟨g, 4, none⟩))).run Tryz.prog w' = .ok (.agg (aggT tk)) w' from fun w' hw => HC.out.pair w' g (show _ = some (Obj.cells C 35 (0, 0)) from hw (g, C, 35) (by simp)))
  have FX := Lib.hid (show ∀ w', Held w' ((gs, aggT s1, 25) :: (g, C, 35) :: (w.heap.size, aggT x, 25) :: []) → (Instr.loadAt 25 (.pointer (some ⟨w.heap.size, 0, none⟩))).run Tryz.prog w' = .ok (.agg (aggT x)) w' from fun w' hw => pair_load (show _ = some (Obj.cells (aggT x) 25 (0, 0)) from hw (w.heap.size, aggT x, 25) (by simp)))
  refine sq_gok (S := fun w' => Held w' ((gs, aggT s1, 25) :: (g, C, 35) :: (w.heap.size, aggT x, 25) :: [])) [(true, 0), (true, 1), (true, 2), (true, 3), (true, 5), (true, 6), (true, 7), (true, 8), (false, 4), (false, 9), (false, 10)] HS5.out ?_
  refine sq_ldk (some 28) FS.out ?_
  refine sq_ldk (some 29) FX.out ?_
  refine sq_psk [(2, .pointer (some ⟨g, 1, none⟩))] ?_
  refine sq_ldk (some 31) FP.out ?_
  refine sq_psk [(5, .pointer (some ⟨g, 4, none⟩))] ?_
  refine sq_ldk (some 34) FK.out ?_
  refine sq_psk [(7, .pointer (some ⟨g, 1, none⟩))] ?_
  refine sq_ldk (some 36) FP.out ?_
  refine sq_ck (some 32) Tryz.func39 (M2.out _) ?_
  rintro e w5 ⟨rfl, bw5⟩
  have HG6 := Lib.hid (HG5.out.on bw5)
  have HS6 := Lib.hid HG6.out.h
  refine ⟨_, rfl, HS6.out, ?_⟩
  refine sq_ck (some 37) Tryz.func72 (M3.out _) ?_
  rintro e w6 ⟨rfl, bw6⟩
  have HG7 := Lib.hid (HG6.out.on bw6)
  have HS7 := Lib.hid HG7.out.h
  refine ⟨_, rfl, HS7.out, ?_⟩
  have HE := Lib.hid (HG7.out.put HGe.out (aggT s3))
  refine sq_stk 25 (w.heap.size + 1) (aggT s3) HG7.out.out Tryz.infoP rfl (HS7.out.setRow HG7.out.ne) ?_
  refine sq_done ?_
  refine ‹∀ a w, Code.wp _ Code.ret _ a w → _› _ _ ?_
  refine wp_ret ?_
  exact bodyPost_ret (results_cell_row Tryz.results40 _ _ (w.heap.size + 1) _ _ _ _ (by kernel_rfl) HE.out.out Tryz.underlying25 rfl Tryz.infoP) (by kernel_rfl) ⟨rfl, HE.out.b⟩
end Go.Proofs.YtdajgcgliidjbaaGreat

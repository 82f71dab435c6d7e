import Derived.Test.YtkmmlfocidfghaaGreatYSpec
import Derived.Test.YtkmmlfocidfghaaGreatJHalf
import Derived.Test.YtkmmlfocidfghaaGreatJTri
import Derived.Test.YtkmmlfocidfghaaGreatSeqC
namespace Go.Proofs.YtkmmlfocidfghaaGreat
open Go.RowKit
set_option maxRecDepth 8000 in
set_option maxHeartbeats 8000000 in
theorem curveOf_i (id : Int) (w : World) : Calls Tryz.prog 32 #[.int .i64 id] w fun e w' => e = .returned (.tuple #[.agg (cvC id), .bool (cvB id)]) ∧ Below w.heap.size w w' := by
  have hb2 : ∀ A B : Obj, Below w.heap.size w ((w.alloc A).alloc B) := fun A B => ((Below.refl w.heap.size w).alloc (Nat.le_refl _) A).alloc (by simp) B
  by_cases h1 : id = 1
  · subst h1
    skip
    have HR := Lib.hid (fun (tmps : Array Value) (B : Obj) => cv_result2 (w := (w.alloc (.cells cv1 43)).alloc B) (heap_alloc2_old w (.cells cv1 43) B) rfl Tryz.results32 tmps)
    go_enter Tryz.func32, Tryz.ntmps32
    go_wp2
    exact bodyPost_ret (HR.out _ _ rfl) rfl ⟨rfl, hb2 _ _⟩
  by_cases h2 : id = 2
  · subst h2
    clear h1
    have HR := Lib.hid (fun (tmps : Array Value) (B : Obj) => cv_result2 (w := (w.alloc (.cells cv2 43)).alloc B) (heap_alloc2_old w (.cells cv2 43) B) rfl Tryz.results32 tmps)
    go_enter Tryz.func32, Tryz.ntmps32
    go_wp2
    exact bodyPost_ret (HR.out _ _ rfl) rfl ⟨rfl, hb2 _ _⟩
  by_cases h3 : id = 3
  · subst h3
    clear h1 h2
    have HR := Lib.hid (fun (tmps : Array Value) (B : Obj) => cv_result2 (w := (w.alloc (.cells cv3 43)).alloc B) (heap_alloc2_old w (.cells cv3 43) B) rfl Tryz.results32 tmps)
    go_enter Tryz.func32, Tryz.ntmps32
    go_wp2
    exact bodyPost_ret (HR.out _ _ rfl) rfl ⟨rfl, hb2 _ _⟩
  by_cases h4 : id = 4
  · subst h4
    clear h1 h2 h3
    have HR := Lib.hid (fun (tmps : Array Value) (B : Obj) => cv_result2 (w := (w.alloc (.cells cv4 43)).alloc B) (heap_alloc2_old w (.cells cv4 43) B) rfl Tryz.results32 tmps)
    go_enter Tryz.func32, Tryz.ntmps32
    go_wp2
    exact bodyPost_ret (HR.out _ _ rfl) rfl ⟨rfl, hb2 _ _⟩
  have e : cvC id = cv0 := by unfold cvC; rw [if_neg h1, if_neg h2, if_neg h3, if_neg h4]
  have e2 : cvB id = false := by
    cases hq : cvB id with
    | false => rfl
    | true => rcases four_ids hq with h | h | h | h <;> contradiction
  rw [e, e2]
  have q1 : (id == 1) = false := by simpa using h1
  have q2 : (id == 2) = false := by simpa using h2
  have q3 : (id == 3) = false := by simpa using h3
  have q4 : (id == 4) = false := by simpa using h4
  have HR := Lib.hid (fun (tmps : Array Value) (B : Obj) => cv_result2 (w := (w.alloc (.cells cv0 43)).alloc B) (heap_alloc2_old w (.cells cv0 43) B) rfl Tryz.results32 tmps)
  clear h1 h2 h3 h4 e e2
  go_enter Tryz.func32, Tryz.ntmps32
  go_wp2
  exact bodyPost_ret (HR.out _ _ rfl) rfl ⟨rfl, hb2 _ _⟩
set_option maxRecDepth 8000 in
set_option maxHeartbeats 4000000 in
theorem cubeAnd_i (id : Int) (x : ByteArray) (w : World) : Calls Tryz.prog 37 #[.int .i64 id, .string x] w fun e w' => e = .returned (.string (cubeG id x)) ∧ Below w.heap.size w w' := by
  have HK := Lib.hid (curveOf_i id)
  have HC := Lib.hid (cv_in id)
  have HO := Lib.hid (restOk_i x (cvPT id))
  cases hb : cvB id with
  | false =>
    rw [hb] at HK
    rw [cube_no (by rw [hb]; rfl)]
    clear hb HO
    generalize cvC id = C at *
    go_enter Tryz.func37, Tryz.ntmps37
    go_wp2_with fail
    refine (HK.out _).mono ?_
    rintro e w1 ⟨rfl, b1⟩
    have V := Lib.hid (cv_var' w1 HC.out.size)
    have HB := Lib.hid (bt b1 V.out.b)
    clear b1 HK
    go_wp2_with (first | refine cv_store rfl (.tmp 5) (.tmp 11) rfl w1.heap.size cv0 C rfl rfl V.out.at0 rfl HC.out.size HC.out.one ?_)
    go_ret
    exact ⟨rfl, HB.out⟩
  | true =>
  rw [hb] at HK
  cases hr : restB x (cvPT id) with
  | false =>
    rw [hr] at HO
    rw [cube_no (by rw [hb, hr]; rfl)]
    clear hb hr
    generalize cvC id = C at *
    generalize cvNT id = tn at *
    generalize cvRT id = tr at *
    generalize cvSz id = sz at *
    generalize cvPT id = tp at *
    generalize cvBT id = tb at *
    generalize cvKT id = tk at *
    go_enter Tryz.func37, Tryz.ntmps37
    go_wp2_with fail
    refine (HK.out _).mono ?_
    rintro e w1 ⟨rfl, b1⟩
    have V := Lib.hid (cv_var' w1 HC.out.size)
    have HB := Lib.hid (bt b1 V.out.b)
    obtain ⟨_, c1, _⟩ := HC.out.cells _ _ V.out.at1
    clear b1 HK
    go_wp2_with (first | refine cv_store rfl (.tmp 5) (.tmp 11) rfl w1.heap.size cv0 C rfl rfl V.out.at0 rfl HC.out.size HC.out.one ?_)
    refine (HO.out _).mono ?_
    rintro e w2 ⟨rfl, b2⟩
    have HB2 := Lib.hid (bt HB.out b2)
    clear b2 HB c1 V HO
    go_wp2
    go_ret
    exact ⟨rfl, HB2.out⟩
  | true =>
    rw [hr] at HO
    rw [show cubeG id x = addR (mulR (mulR x x (cvPT id)) x (cvPT id)) (cvBT id) (cvPT id) by unfold cubeG; rw [hb, hr]; rfl]
    clear hb hr
    generalize cvC id = C at *
    generalize cvNT id = tn at *
    generalize cvRT id = tr at *
    generalize cvSz id = sz at *
    generalize cvPT id = tp at *
    generalize cvBT id = tb at *
    generalize cvKT id = tk at *
    have M1 := Lib.hid (mulRest_i x x tp)
    generalize mulR x x tp = s1 at *
    have M2 := Lib.hid (mulRest_i s1 x tp)
    generalize mulR s1 x tp = s2 at *
    have M3 := Lib.hid (addRest_i s2 tb tp)
    generalize addR s2 tb tp = s3 at *
    go_enter Tryz.func37, Tryz.ntmps37
    go_wp2_with fail
    refine (HK.out _).mono ?_
    rintro e w1 ⟨rfl, b1⟩
    have V := Lib.hid (cv_var' w1 HC.out.size)
    have HB := Lib.hid (bt b1 V.out.b)
    obtain ⟨_, c1, _⟩ := HC.out.cells _ _ V.out.at1
    clear b1 HK
    go_wp2_with (first | refine cv_store rfl (.tmp 5) (.tmp 11) rfl w1.heap.size cv0 C rfl rfl V.out.at0 rfl HC.out.size HC.out.one ?_)
    have HV := Lib.hid ((Held.none _).cons V.out.at1)
    clear c1 V
    generalize (w1.alloc _).setRow _ _ = wv at *
    generalize w1.heap.size = g at *
    refine (HO.out _).mono ?_
    rintro e w2 ⟨rfl, b2⟩
    have HV2 := Lib.hid (HV.out.on b2)
    have HB2 := Lib.hid (bt HB.out b2)
    clear b2 HB HV HO
    obtain ⟨_, c1, _⟩ := HC.out.cells _ _ (HV2.out _ (.head _))
    go_wp2_with fail
    refine (M1.out _).mono ?_
    rintro e w3 ⟨rfl, b3⟩
    have HV3 := Lib.hid (HV2.out.on b3).drew
    have HB3 := Lib.hid (bt (bt HB2.out b3) (bd7 _))
    clear b3 c1 HV2 HB2 M1
    go_wp2_with fail
    have FP := Lib.hid (show ∀ w', Held w' [(g, C, 43)] → (Instr.loadAt 9 (.pointer (some ⟨g, 1, none⟩))).run Tryz.prog w' = .ok (.string tp) w' from fun w' hw => (HC.out.strs (hw _ (.head _))).2.1)
    have FB := Lib.hid (show ∀ w', Held w' [(g, C, 43)] → (Instr.loadAt 9 (.pointer (some ⟨g, 3, none⟩))).run Tryz.prog w' = .ok (.string tb) w' from fun w' hw => (HC.out.strs (hw _ (.head _))).2.2.2)
    refine sq_go (S := fun w' => Held w' [(g, C, 43)]) [(true, 0), (true, 1), (true, 2), (true, 3), (true, 5), (true, 6), (true, 7), (true, 8), (false, 4), (false, 9), (true, 10)] (by kernel_rfl) (fun d _ _ _ _ h => by cases d <;> exact h) HV3.out ?_
    refine sq_ps [(0, .string s1), (1, .string x), (2, .pointer (some ⟨g, 1, none⟩))] (by kernel_rfl) ?_
    refine sq_ld (some 30) FP.out (by kernel_rfl) ?_
    refine sq_ps [(5, .pointer (some ⟨g, 3, none⟩))] (by kernel_rfl) ?_
    refine sq_ld (some 33) FB.out (by kernel_rfl) ?_
    refine sq_ps [(7, .pointer (some ⟨g, 1, none⟩))] (by kernel_rfl) ?_
    refine sq_ld (some 35) FP.out (by kernel_rfl) ?_
    refine sq_c (some 31) Tryz.func36 (M2.out _) (by kernel_rfl) ?_
    rintro e w4 ⟨rfl, bw4⟩
    have HV4 := Lib.hid (HV3.out.on bw4)
    have HB4 := Lib.hid (bt HB3.out bw4)
    refine ⟨_, rfl, HV4.out, ?_⟩
    refine sq_c (some 36) Tryz.func65 (M3.out _) (by kernel_rfl) ?_
    rintro e w5 ⟨rfl, bw5⟩
    have HV5 := Lib.hid (HV4.out.on bw5)
    have HB5 := Lib.hid (bt HB4.out bw5)
    refine ⟨_, rfl, HV5.out, ?_⟩
    refine sq_ps [(10, .string s3)] (by kernel_rfl) ?_
    refine sq_done ?_
    refine (by assumption : ∀ (a : Act) (w_1 : World), Code.wp _ Code.ret _ a w_1 → _) _ _ ?_
    refine wp_ret ?_
    exact ret_at (v := .string s3) Tryz.results37 (by kernel_rfl) (by kernel_rfl) ⟨rfl, HB5.out⟩
end Go.Proofs.YtkmmlfocidfghaaGreat

import Derived.Test.YtejmogdognenmaaGreatQMath
namespace Go.Proofs.YtejmogdognenmaaGreat
open Go.RowKit
set_option maxRecDepth 8000 in
set_option maxHeartbeats 4000000 in
theorem prime_c {w : World} {B g n cap : Nat} {A : Option Addr} (h : Curs w w B g A n cap) :
    Calls Tryz.prog 41 #[.pointer (some ⟨g, 0, none⟩)] w (TextPost (fun t => t.size ≤ 950) B g A n cap w) := by
  have H := Lib.hid (below_c h 8 (by omega) (by omega))
  have hglt := h.c.glt
  clear h
  go_enter Tryz.func41, Tryz.ntmps41
  go_wp2_with fail
  refine H.out.mono ?_
  rintro e w1 ⟨x, rfl, x0, x1, hc⟩
  have HC := Lib.hid hc
  have hs1 := hc.gr.size
  clear hc H
  by_cases e0 : x = 0
  · subst e0
    go_wp2_with fail
    refine (modulus_c HC.out.start).mono ?_
    rintro e w2 ⟨t, rfl, st, hc2⟩
    have HC2 := Lib.hid (HC.out.trans hc2)
    clear hc2 HC
    go_wp2
    go_ret
    exact ⟨_, rfl, st, HC2.out⟩
  have q0 : (x == 0) = false := by simpa using e0
  by_cases e1 : x = 1
  · subst e1
    clear e0 q0
    go_wp2_with fail
    have HP := pickInt_new HC.out hglt [.int .i64 3, .int .i64 5, .int .i64 7, .int .i64 17, .int .i64 97, .int .i64 193, .int .i64 257, .int .i64 7681, .int .i64 9973, .int .i64 9, .int .i64 15, .int .i64 2, .int .i64 1, .int .i64 9999, .int .i64 10007] 3 (by decide) (by simp) (by simp)
    simp only [List.length_cons, List.length_nil, Nat.zero_add, Nat.reduceAdd] at HP
    refine HP.mono ?_
    rintro e w2 ⟨y, rfl, ⟨_, y1⟩, hc2⟩
    have HC2 := Lib.hid hc2
    have hy2 : y < 9223372036854775808 := by omega
    have G1 := Lib.hid (fun w => greatOf_any y w hy2)
    have GS := Lib.hid (of_size hy2)
    clear hc2 HC HP hy2 y1
    go_wp2_with fail
    refine (G1.out _).mono ?_
    rintro e w3 ⟨rfl, b3⟩
    have HC3 := Lib.hid (HC2.out.below b3)
    clear b3 HC2 G1
    go_wp2
    go_ret
    exact ⟨_, rfl, GS.out, HC3.out⟩
  have q1 : (x == 1) = false := by simpa using e1
  by_cases e2 : x = 2
  · subst e2
    clear e0 e1 q0 q1
    have q1 : ((2 : Int) == 1) = false := rfl
    go_wp2_with fail
    have HP := pickInt_new HC.out hglt [.int .i64 3, .int .i64 5, .int .i64 7, .int .i64 17, .int .i64 97, .int .i64 193, .int .i64 257, .int .i64 7681, .int .i64 9973, .int .i64 9, .int .i64 15, .int .i64 2, .int .i64 1, .int .i64 9999, .int .i64 10007] 3 (by decide) (by simp) (by simp)
    simp only [List.length_cons, List.length_nil, Nat.zero_add, Nat.reduceAdd] at HP
    refine HP.mono ?_
    rintro e w2 ⟨y, rfl, ⟨_, y1⟩, hc2⟩
    have HC2 := Lib.hid hc2
    have hy2 : y < 9223372036854775808 := by omega
    have G1 := Lib.hid (fun w => greatOf_any y w hy2)
    have GS := Lib.hid (of_size hy2)
    clear hc2 HC HP hy2 y1
    go_wp2_with fail
    refine (G1.out _).mono ?_
    rintro e w3 ⟨rfl, b3⟩
    have HC3 := Lib.hid (HC2.out.below b3)
    clear b3 HC2 G1
    go_wp2
    go_ret
    exact ⟨_, rfl, GS.out, HC3.out⟩
  have q2 : (x == 2) = false := by simpa using e2
  clear e0 e1 e2
  have H1 := Lib.hid (once_c HC.out.start 30 (by omega) (by omega))
  go_wp2_with fail
  refine H1.out.mono ?_
  rintro e w1' ⟨bb, rfl, hc1⟩
  have HC1 := Lib.hid (HC.out.trans hc1)
  clear hc1 H1 HC
  have H2 := Lib.hid (below_c HC1.out.start 2 (by omega) (by omega))
  cases bb
  · go_wp2_with fail
    refine H2.out.mono ?_
    rintro e w2 ⟨y, rfl, y0, y1, hc2⟩
    have HC2 := Lib.hid (HC1.out.trans hc2)
    clear hc2 H2 HC1
    have hy : y = 0 ∨ y = 1 := by omega
    rcases hy with rfl | rfl
    · clear y0 y1
      have HK := Lib.hid (curve_at1)
      go_wp2_with fail
      refine (HK.out _).mono ?_
      rintro e w3 ⟨rfl, b3⟩
      have HC3 := Lib.hid (HC2.out.below b3)
      have V := Lib.hid (cv_var w3 cv1 rfl)
      have HC4 := Lib.hid (HC3.out.below V.out.2.2.1)
      obtain ⟨c1, c2⟩ := cv_cells1 V.out.2.1
      clear b3 HK HC2 HC3
      go_wp2_with (first | refine cv_store rfl (.tmp 5) (.tmp 41) rfl w3.heap.size cv0 cv1 rfl rfl V.out.1 rfl rfl (by kernel_rfl) ?_)
      clear c1 c2
      have hs4 := V.out.2.2.2
      clear V
      generalize (World.setRow (World.alloc _ _) _ _) = w4 at *
      have HP := pick_new HC4.out hglt [.string cvP1, .string cvR1] 9 rfl (by simp) (by simp)
      simp only [List.length_cons, List.length_nil, Nat.zero_add, Nat.reduceAdd, hs4] at HP
      refine HP.mono ?_
      rintro e w5 ⟨t5, rfl, s5, hc5⟩
      have HC5 := Lib.hid hc5
      clear hc5 HC4 HP
      go_wp2
      go_ret
      exact ⟨_, rfl, s5, HC5.out⟩
    · clear y0 y1
      have HK := Lib.hid (curve_at2)
      go_wp2_with fail
      refine (HK.out _).mono ?_
      rintro e w3 ⟨rfl, b3⟩
      have HC3 := Lib.hid (HC2.out.below b3)
      have V := Lib.hid (cv_var w3 cv2 rfl)
      have HC4 := Lib.hid (HC3.out.below V.out.2.2.1)
      obtain ⟨c1, c2⟩ := cv_cells2 V.out.2.1
      clear b3 HK HC2 HC3
      go_wp2_with (first | refine cv_store rfl (.tmp 5) (.tmp 41) rfl w3.heap.size cv0 cv2 rfl rfl V.out.1 rfl rfl (by kernel_rfl) ?_)
      clear c1 c2
      have hs4 := V.out.2.2.2
      clear V
      generalize (World.setRow (World.alloc _ _) _ _) = w4 at *
      have HP := pick_new HC4.out hglt [.string cvP2, .string cvR2] 9 rfl (by simp) (by simp)
      simp only [List.length_cons, List.length_nil, Nat.zero_add, Nat.reduceAdd, hs4] at HP
      refine HP.mono ?_
      rintro e w5 ⟨t5, rfl, s5, hc5⟩
      have HC5 := Lib.hid hc5
      clear hc5 HC4 HP
      go_wp2
      go_ret
      exact ⟨_, rfl, s5, HC5.out⟩
  · go_wp2_with fail
    refine H2.out.mono ?_
    rintro e w2 ⟨y, rfl, y0, y1, hc2⟩
    have HC2 := Lib.hid (HC1.out.trans hc2)
    clear hc2 H2 HC1
    have hy : y = 0 ∨ y = 1 := by omega
    rcases hy with rfl | rfl
    · clear y0 y1
      have HK := Lib.hid (curve_at3)
      go_wp2_with fail
      refine (HK.out _).mono ?_
      rintro e w3 ⟨rfl, b3⟩
      have HC3 := Lib.hid (HC2.out.below b3)
      have V := Lib.hid (cv_var w3 cv3 rfl)
      have HC4 := Lib.hid (HC3.out.below V.out.2.2.1)
      obtain ⟨c1, c2⟩ := cv_cells3 V.out.2.1
      clear b3 HK HC2 HC3
      go_wp2_with (first | refine cv_store rfl (.tmp 3) (.tmp 27) rfl w3.heap.size cv0 cv3 rfl rfl V.out.1 rfl rfl (by kernel_rfl) ?_)
      clear c1 c2
      have hs4 := V.out.2.2.2
      clear V
      generalize (World.setRow (World.alloc _ _) _ _) = w4 at *
      have HP := pick_new HC4.out hglt [.string cvP3, .string cvR3] 9 rfl (by simp) (by simp)
      simp only [List.length_cons, List.length_nil, Nat.zero_add, Nat.reduceAdd, hs4] at HP
      refine HP.mono ?_
      rintro e w5 ⟨t5, rfl, s5, hc5⟩
      have HC5 := Lib.hid hc5
      clear hc5 HC4 HP
      go_wp2
      go_ret
      exact ⟨_, rfl, s5, HC5.out⟩
    · clear y0 y1
      have HK := Lib.hid (curve_at4)
      go_wp2_with fail
      refine (HK.out _).mono ?_
      rintro e w3 ⟨rfl, b3⟩
      have HC3 := Lib.hid (HC2.out.below b3)
      have V := Lib.hid (cv_var w3 cv4 rfl)
      have HC4 := Lib.hid (HC3.out.below V.out.2.2.1)
      obtain ⟨c1, c2⟩ := cv_cells4 V.out.2.1
      clear b3 HK HC2 HC3
      go_wp2_with (first | refine cv_store rfl (.tmp 3) (.tmp 27) rfl w3.heap.size cv0 cv4 rfl rfl V.out.1 rfl rfl (by kernel_rfl) ?_)
      clear c1 c2
      have hs4 := V.out.2.2.2
      clear V
      generalize (World.setRow (World.alloc _ _) _ _) = w4 at *
      have HP := pick_new HC4.out hglt [.string cvP4, .string cvR4] 9 rfl (by simp) (by simp)
      simp only [List.length_cons, List.length_nil, Nat.zero_add, Nat.reduceAdd, hs4] at HP
      refine HP.mono ?_
      rintro e w5 ⟨t5, rfl, s5, hc5⟩
      have HC5 := Lib.hid hc5
      clear hc5 HC4 HP
      go_wp2
      go_ret
      exact ⟨_, rfl, s5, HC5.out⟩
end Go.Proofs.YtejmogdognenmaaGreat

import Derived.Test.YtdajgcgliidjbaaGreatJPairC
import Derived.Test.YtdajgcgliidjbaaGreatUInvs
import Derived.Deep.LoopGhost
set_option maxRecDepth 8000
set_option maxHeartbeats 4000000
namespace Go.Proofs.YtdajgcgliidjbaaGreat
open Go.RowKit
theorem negPair_i (x : Pt) (p : ByteArray) (w : World) : Calls Tryz.prog 41 #[.agg (aggT x), .string p] w fun e w' => e = .returned (.agg (aggT (negPG x p))) ∧ Below w.heap.size w w' := by
 have HS := Lib.hid (subPair_i noP x p)
 unfold negPG
 generalize subPG noP x p = R at *
 have HX2 := Lib.hid (heap_alloc2_old w (.cells (aggT x) 25) (.cells #[.string ⟨#[]⟩, .string ⟨#[]⟩] 25))
 have HO2 := Lib.hid (heap_alloc2_new w (.cells (aggT x) 25) (.cells #[.string ⟨#[]⟩, .string ⟨#[]⟩] 25))
 have HB2 := Lib.hid (((Below.refl w.heap.size w).alloc (Nat.le_refl _) (.cells (aggT x) 25)).alloc (by simp) (.cells #[.string ⟨#[]⟩, .string ⟨#[]⟩] 25))
 go_enter Tryz.func41, Tryz.ntmps41
 go_wp2_with (first | refine load_p rfl (.tmp 2) rfl w.heap.size x rfl HX2.out ?_)
 generalize (w.alloc (.cells (aggT x) 25)).alloc (.cells #[.string ⟨#[]⟩, .string ⟨#[]⟩] 25) = w2 at *
 have hz2 : w.heap.size + 1 < w2.heap.size := (Array.getElem?_eq_some_iff.1 HO2.out).1
 refine (HS.out _).mono ?_
 rintro e w3 ⟨rfl, b3⟩
 have HO3 := Lib.hid ((b3.block _ hz2).trans HO2.out)
 have HB3 := Lib.hid (bt HB2.out b3)
 have HW := Lib.hid (below_setRow2 HB3.out (show w.heap.size ≤ w.heap.size + 1 by omega) (aggT R))
 have HR := Lib.hid (setRow_heap w3 (w.heap.size + 1) _ (aggT R) _ _ HO3.out)
 clear b3 HB2 HO2 HX2 HS
 go_wp2_with (first | refine store_p rfl (.tmp 4) (.tmp 8) rfl (w.heap.size + 1) _ R rfl rfl HO3.out rfl ?_)
 exact bodyPost_ret (results_cell_row Tryz.results41 _ _ (w.heap.size + 1) _ _ _ _ rfl HR.out Tryz.underlying25 rfl Tryz.infoP) rfl ⟨rfl, HW.out⟩
theorem pinverse_any {g n x : Nat} {p a : Rw} {w : World} (hg : RowA w g p.l p.c) (ha : a.Ok x) (hp : p.Ok n) (hx : x < n) (h1 : 1 < n) (hG : n < GB) :
  Calls Tryz.prog 226 #[.pointer (some ⟨g, 0, none⟩), .agg a.C] w (InvRw x n w) := by
 obtain ⟨Z, hz, HZ⟩ := zero_limb
 have HZs := Lib.hid hz
 obtain ⟨_, post, t, hg⟩ := hg
 have H0 : Held w [(g, rowC p.l p.c ++ post, t)] := (Held.none w).cons hg
 have HG0 := Lib.hid (begun2 H0 a.C Z 100 100)
 have C1 := Lib.hid (inverseOfRestA_any w.heap.size g a.c p.c a.l p.l _ ⟨ha.len, HG0.out.h (w.heap.size, a.C, 100) (.head _)⟩ ⟨hp.len, post, t, HG0.out.h (g, rowC p.l p.c ++ post, t) (.tail _ (.head _))⟩ ha.v hp.v x n ha.e hp.e hx h1 hG)
 clear hg ha hp hx h1 hG hz H0
 go_enter Tryz.func226, Tryz.ntmps226
 go_wp2_with fail
 refine C1.out.mono ?_
 rintro e w1 h
 obtain ⟨r, rfl, k1, k2, b1⟩ := inv_rw h
 have HK := Lib.hid k1
 have HLn := Lib.hid k2
 have HG1 := Lib.hid (HG0.out.on b1)
 have HE := Lib.hid (HG1.out.put (by omega) r.C)
 clear h k1 k2 b1 C1 HG0
 obtain ⟨bb, hbb⟩ : ∃ b, decide (Nat.gcd n x = 1) = b := ⟨_, rfl⟩
 have HBB := Lib.hid hbb
 rw [hbb]
 clear hbb
 go_wp2_with (first | refine store_v rfl 100 (.tmp 4) (.tmp 10) rfl (w.heap.size + 1) Z r.C rfl rfl HG1.out.out (by rw [show r.C.size = 82 from rowC_size82 HLn.out]; exact Tryz.infoLimb) (by rw [HZs.out, show r.C.size = 82 from rowC_size82 HLn.out]) (rowC_one _ _) ?_)
 exact bodyPost_ret (inv_results (l := r.l) (c := r.c) Tryz.results226 _ ⟨HLn.out, HE.out.out⟩ rfl rfl) rfl ⟨r, by rw [HBB.out] <;> rfl, HK.out, HLn.out, HE.out.b⟩
theorem norm_in {n : Nat} {x : Pn} (hx : InP2 n x) : normP n x < n := normP_lt (Nat.lt_of_le_of_lt (Nat.zero_le _) hx.1) x
theorem inversePair_i (x : Pt) (p : ByteArray) (w : World) : Calls Tryz.prog 225 #[.agg (aggT x), .string p] w (InvPPost x p w) := by
 have HP := Lib.hid (pairOk_i x p)
 have HB := Lib.hid (begun2 (Held.none w) (aggT x) #[.string ⟨#[]⟩, .string ⟨#[]⟩] 25 25)
 have HX0 := Lib.hid (show _ = some (Obj.cells (aggT x) 25 (0, 0)) from HB.out.h _ (.head _))
 unfold InvPPost
 cases hx : pairB x p with
 | false =>
  rw [hx] at HP
  rw [(inv_no hx).1, (inv_no hx).2]
  clear hx
  go_enter Tryz.func225, Tryz.ntmps225
  go_wp2_with (first | refine load_p rfl (.tmp 2) rfl w.heap.size x rfl HX0.out ?_)
  generalize (w.alloc _).alloc _ = w0 at *
  refine (HP.out _).mono ?_
  rintro e w1 ⟨rfl, b1⟩
  have HB1 := Lib.hid (HB.out.on b1)
  have HE := Lib.hid (HB1.out.put (show w.heap.size ≤ w.heap.size + 1 by omega) (aggT noP))
  clear b1 HB HX0
  go_wp2_with (first | refine store_p rfl (.tmp 4) (.tmp 16) rfl (w.heap.size + 1) _ noP rfl rfl HB1.out.out rfl ?_)
  exact bodyPost_ret (resP HE.out.out rfl Tryz.results225 _ rfl) rfl ⟨rfl, HE.out.b⟩
 | true =>
  rw [hx] at HP
  rw [(inv7_txt hx).1, (inv7_txt hx).2]
  obtain ⟨⟨s1, s2, sp⟩, ix, h1, hG⟩ := pair_sizes hx
  obtain ⟨ZT, hzt, HZT⟩ := zero_tri
  have HZTs := Lib.hid hzt
  obtain ⟨ZL, hzl, HZL⟩ := zero_limb
  have HZLs := Lib.hid hzl
  have I1 := Lib.hid (fun w => pairOf_any x p w s1 s2 sp)
  have HI := Lib.hid (And.intro ix (And.intro (norm_in ix) (And.intro h1 hG)))
  obtain ⟨n, hn⟩ : ∃ n, gV p = n := ⟨_, rfl⟩
  obtain ⟨X, hX⟩ : ∃ X, valP x = X := ⟨_, rfl⟩
  rw [hn, hX] at HI I1 ⊢
  clear hx s1 s2 sp h1 hzt hzl ix hG hn hX
  go_enter Tryz.func225, Tryz.ntmps225
  go_wp2_with (first | refine load_p rfl (.tmp 2) rfl w.heap.size x rfl HX0.out ?_)
  generalize (w.alloc _).alloc _ = w0 at *
  refine (HP.out _).mono ?_
  rintro e w1 ⟨rfl, b1⟩
  have HB1 := Lib.hid (HB.out.on b1)
  have HX1 := Lib.hid (stays b1 HX0.out)
  clear b1 HB HX0 HP
  go_wp2_with (first | refine load_p rfl (.tmp 2) rfl w.heap.size x rfl HX1.out ?_)
  refine (I1.out _).mono ?_
  rintro e w2 ⟨q, a, b, rfl, T, b2⟩
  have HT := Lib.hid T
  have HG2 := Lib.hid (begun1 (Held.none w2) ZT 104)
  have HE2 := Lib.hid (HG2.out.put (Nat.le_refl _) (triC q a b))
  have HB2 := Lib.hid ((HB1.out.on b2).on HE2.out.b)
  clear b2 HB1 HX1 I1 T
  go_wp2_with (first | refine store_v rfl 104 (.tmp 6) (.tmp 19) rfl w2.heap.size ZT (triC q a b) rfl rfl HG2.out.out (by rw [HT.out.size]; exact Tryz.infoTri) (HZTs.out.trans HT.out.size.symm) (tri_one _ _ _) ?_)
  generalize (w2.alloc _).setRow _ _ = w3 at *
  refine (norm_any HE2.out.out HT.out HI.out.1 HI.out.2.2.2).mono ?_
  rintro e w4 ⟨m, rfl, hm, bw4⟩
  have HM := Lib.hid hm
  have HT4 := Lib.hid (stays bw4 HE2.out.out)
  have HB4 := Lib.hid (HB2.out.on bw4)
  clear bw4 HB2 HG2 HE2 hm
  go_wp2_with fail
  refine (pinverse_any (HT.out.rowP HT4.out) HM.out HT.out.hp HI.out.2.1 HI.out.2.2.1 HI.out.2.2.2).mono ?_
  rintro e w5 ⟨r, rfl, k1, k2, bw5⟩
  have HLn := Lib.hid k2
  have HT5 := Lib.hid (stays bw5 HT4.out)
  have HG5 := Lib.hid (begun1 ((Held.none w5).cons HT5.out) ZL 100)
  have HE5 := Lib.hid (HG5.out.put (Nat.le_refl _) r.C)
  have HB5 := Lib.hid ((HB4.out.on bw5).on HE5.out.b)
  clear bw5 HB4 HT4 HT5 k2
  by_cases hg : Nat.gcd n (normP n X) = 1
  ·obtain ⟨hr, hlt⟩ := k1 hg
   have hd : decide (Nat.gcd n (normP n X) = 1) = true := decide_eq_true hg
   have HR := Lib.hid hr
   have hin : InP2 n (invN (normP n X) n, 0) := ⟨hlt, by have := HI.out.2.2.1; show 0 < n; omega⟩
   have hot := otherP_in (show 0 < n by have := HI.out.2.2.1; omega) HI.out.1
   have hres : mulP n (otherP n X) (invN (normP n X) n, 0) = inv7 X n := by rw [mul_part hlt]; unfold inv7; rw [if_pos hg]
   have HIn := Lib.hid (And.intro hin (And.intro hot (And.intro hres (inv7_in (x := X) (show 0 < n by have := HI.out.2.2.1; omega)))))
   rw [hd]
   have HD := Lib.hid hd
   generalize invN (normP n X) n = mm at *
   obtain ⟨YY, hYY⟩ : ∃ Y, inv7 X n = Y := ⟨_, rfl⟩
   have HY := Lib.hid hYY
   rw [hYY] at HIn
   clear hr hlt hg hd k1 hin hot hres hYY
   go_wp2_with (first | refine store_v rfl 100 (.tmp 7) (.tmp 24) rfl w5.heap.size ZL r.C rfl rfl HG5.out.out (by rw [HR.out.size]; exact Tryz.infoLimb) (HZLs.out.trans HR.out.size.symm) (rowC_one _ _) ?_ | refine load_v rfl 100 (.tmp 7) rfl w5.heap.size r.C rfl HE5.out.out Tryz.underlying100 rfl (by rw [HR.out.size]; exact Tryz.infoLimb) ?_ | refine build_v rfl 100 rfl zRw.C built_limb ?_)
   generalize (w5.alloc _).setRow _ _ = w6 at *
   have HT6 := Lib.hid (show _ = some (Obj.cells (triC q a b) 104 (0, 0)) from HE5.out.h _ (.head _))
   refine (with_any (y := (mm, 0)) HT6.out HT.out HR.out zRw_ok).mono ?_
   rintro e w7 ⟨q7, a7, b7, rfl, T7, bw7⟩
   have H7 := Lib.hid T7
   have HT7 := Lib.hid (stays bw7 HT6.out)
   have HB7 := Lib.hid (HB5.out.on bw7)
   clear bw7 T7 HT6 HB5 HG5 HE5
   go_wp2_with fail
   refine (other_any HT7.out HT.out HI.out.1 HI.out.2.2.2).mono ?_
   rintro e w8 ⟨q8, a8, b8, rfl, T8, bw8⟩
   have H8 := Lib.hid T8
   have HZ8 := Lib.hid (heap_alloc2_old w8 (.cells ZT 104) (.cells ZT 104))
   have HZ9 := Lib.hid (heap_alloc2_new w8 (.cells ZT 104) (.cells ZT 104))
   have HL := Lib.hid (two_laid (w := w8) (C' := triC q7 a7 b7) (D' := triC q8 a8 b8) HZ8.out HZ9.out (((Below.refl w8.heap.size w8).alloc (Nat.le_refl _) (.cells ZT 104)).alloc (by simp) (.cells ZT 104)) (Nat.le_refl _))
   have HB8 := Lib.hid ((HB7.out.on bw8).on HL.out.2.2.2)
   clear bw8 T8 HT7 HB7
   go_wp2_with (first | refine store_v rfl 104 (.tmp 9) (.tmp 31) rfl w8.heap.size ZT (triC q7 a7 b7) rfl rfl HZ8.out (by rw [H7.out.size]; exact Tryz.infoTri) (HZTs.out.trans H7.out.size.symm) (tri_one _ _ _) ?_ | refine store_v rfl 104 (.tmp 10) (.tmp 32) rfl (w8.heap.size + 1) ZT (triC q8 a8 b8) rfl rfl HL.out.1 (by rw [H8.out.size]; exact Tryz.infoTri) (HZTs.out.trans H8.out.size.symm) (tri_one _ _ _) ?_)
   refine (times_any HL.out.2.2.1 HL.out.2.1 H8.out H7.out HIn.out.2.1 HIn.out.1 HI.out.2.2.2).mono ?_
   rw [HIn.out.2.2.1]
   rintro e w9 ⟨q9, a9, b9, rfl, T9, bw9⟩
   have H9 := Lib.hid T9
   have HG9 := Lib.hid (begun1 (Held.none w9) ZT 104)
   have HE9 := Lib.hid (HG9.out.put (Nat.le_refl _) (triC q9 a9 b9))
   have HB9 := Lib.hid ((HB8.out.on bw9).on HE9.out.b)
   clear bw9 T9 HL HB8 HZ8 HZ9
   go_wp2_with (first | refine store_v rfl 104 (.tmp 11) (.tmp 33) rfl w9.heap.size ZT (triC q9 a9 b9) rfl rfl HG9.out.out (by rw [H9.out.size]; exact Tryz.infoTri) (HZTs.out.trans H9.out.size.symm) (tri_one _ _ _) ?_)
   refine (told_any HE9.out.out H9.out HIn.out.2.2.2 HI.out.2.2.2).mono ?_
   rintro e wa ⟨rfl, bwa⟩
   have HBa := Lib.hid (HB9.out.on bwa)
   have HE := Lib.hid (HBa.out.put (show w.heap.size ≤ w.heap.size + 1 by omega) (aggT (txtP YY)))
   clear bwa HB9 HG9 HE9
   go_wp2_with (first | refine store_p rfl (.tmp 4) (.tmp 34) rfl (w.heap.size + 1) _ (txtP YY) rfl rfl HBa.out.out rfl ?_)
   exact bodyPost_ret (resP HE.out.out rfl Tryz.results225 _ rfl) rfl ⟨by rw [HY.out, HD.out] <;> rfl, HE.out.b⟩
  ·have hd : decide (Nat.gcd n (normP n X) = 1) = false := decide_eq_false hg
   have hres : txtP (inv7 X n) = noP := by unfold inv7; rw [if_neg hg, noP_txt]
   rw [hd]
   have HD := Lib.hid hd
   have HY := Lib.hid hres
   have HE := Lib.hid (HB5.out.put (show w.heap.size ≤ w.heap.size + 1 by omega) (aggT noP))
   clear hg hd hres k1
   go_wp2_with (first | refine store_v rfl 100 (.tmp 7) (.tmp 24) rfl w5.heap.size ZL r.C rfl rfl HG5.out.out (by rw [show r.C.size = 82 from rowC_size82 HLn.out]; exact Tryz.infoLimb) (by rw [HZLs.out, show r.C.size = 82 from rowC_size82 HLn.out]) (rowC_one _ _) ?_ | refine store_p rfl (.tmp 4) (.tmp 28) rfl (w.heap.size + 1) _ noP rfl rfl HB5.out.out rfl ?_)
   exact bodyPost_ret (resP HE.out.out rfl Tryz.results225 _ rfl) rfl ⟨by rw [HY.out, HD.out] <;> rfl, HE.out.b⟩
end Go.Proofs.YtdajgcgliidjbaaGreat
namespace Go.Proofs.YtdajgcgliidjbaaGreat
open Go.RowKit
end Go.Proofs.YtdajgcgliidjbaaGreat

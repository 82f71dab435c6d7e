import Derived.Test.YtflfeepgkcamnaaGreatJPairC
import Derived.Test.YtflfeepgkcamnaaGreatUInvs
import Derived.Deep.LoopGhost
/-
  The contracts of impl.NegPair, InversePair and PowPair.
-/
namespace Go.Proofs.YtflfeepgkcamnaaGreat
open Go.RowKit

set_option maxRecDepth 8000 in
set_option maxHeartbeats 2000000 in
theorem pinverse_any {g n x : Nat} {p a : Rw} {w : World} (hg : RowA w g p.l p.c) (ha : a.Ok x) (hp : p.Ok n) (hx : x < n) (h1 : 1 < n) (hG : n < GB) :
    Calls Tryz.prog 19 #[.pointer (some ⟨g, 0, none⟩), .agg a.C] w (InvRw x n w) := by
  obtain ⟨Z, hz, HZ⟩ := zero_limb
  have HZs := Lib.hid hz
  obtain ⟨_, post, t, hg⟩ := hg
  have H0 : Held w [(g, rowC p.l p.c ++ post, t)] := (Held.none w).cons hg
  have HG0 := Lib.hid (begun2 H0 a.C Z 41 41)
  have C1 := Lib.hid (inverseOfRestA_any w.heap.size g a.c p.c a.l p.l _ ⟨ha.len, HG0.out.h (w.heap.size, a.C, 41) (.head _)⟩ ⟨hp.len, post, t, HG0.out.h (g, rowC p.l p.c ++ post, t) (.tail _ (.head _))⟩ ha.v hp.v x n ha.e hp.e hx h1 hG)
  clear hg ha hp hx h1 hG hz H0
  go_enter Tryz.func19, Tryz.ntmps19
  go_wp2_with fail
  refine C1.out.mono ?_
  rintro e w1 h
  obtain ⟨r, rfl, k1, k2, b1⟩ := inv_rw h
  have HK := Lib.hid k1
  have HLn := Lib.hid k2
  have HG1 := Lib.hid (HG0.out.on b1)
  have HE := Lib.hid (HG1.out.put (by omega) r.C)
  clear h k1 k2 b1 C1 HG0
  obtain ⟨bb, hbb⟩ : ∃ b, decide (Nat.gcd n x = 1) = b := ⟨_, rfl⟩
  have HBB := Lib.hid hbb
  rw [hbb]
  clear hbb
  go_wp2_with (first | refine store_v rfl 41 (.tmp 4) (.tmp 10) rfl (w.heap.size + 1) Z r.C rfl rfl HG1.out.out (by rw [show r.C.size = 82 from rowC_size82 HLn.out]; exact Tryz.infoLimb) (by rw [HZs.out, show r.C.size = 82 from rowC_size82 HLn.out]) (rowC_one _ _) ?_)
  exact bodyPost_ret (inv_results (l := r.l) (c := r.c) Tryz.results19 _ ⟨HLn.out, HE.out.out⟩ rfl rfl) rfl ⟨r, by rw [HBB.out] <;> rfl, HK.out, HLn.out, HE.out.b⟩
theorem norm_in {n : Nat} {x : Pn} (hx : InP2 n x) : normP n x < n := normP_lt (Nat.lt_of_le_of_lt (Nat.zero_le _) hx.1) x
set_option maxRecDepth 8000 in
set_option maxHeartbeats 4000000 in
theorem inversePair_i (x : Pt) (p : ByteArray) (w : World) : Calls Tryz.prog 6 #[.agg (aggT x), .string p] w (InvPPost x p w) := by
  have HP := Lib.hid (pairOk_i x p)
  have HB := Lib.hid (begun2 (Held.none w) (aggT x) #[.string ⟨#[]⟩, .string ⟨#[]⟩] 25 25)
  have HX0 := Lib.hid (show _ = some (Obj.cells (aggT x) 25 (0, 0)) from HB.out.h _ (.head _))
  unfold InvPPost
  cases hx : pairB x p with
  | false =>
    rw [hx] at HP
    rw [(inv_no hx).1, (inv_no hx).2]
    clear hx
    go_enter Tryz.func6, Tryz.ntmps6
    go_wp2_with (first | refine load_p rfl (.tmp 2) rfl w.heap.size x rfl HX0.out ?_)
    generalize (w.alloc _).alloc _ = w0 at *
    refine (HP.out _).mono ?_
    rintro e w1 ⟨rfl, b1⟩
    have HB1 := Lib.hid (HB.out.on b1)
    have HE := Lib.hid (HB1.out.put (show w.heap.size ≤ w.heap.size + 1 by omega) (aggT noP))
    clear b1 HB HX0
    go_wp2_with (first | refine store_p rfl (.tmp 4) (.tmp 16) rfl (w.heap.size + 1) _ noP rfl rfl HB1.out.out rfl ?_)
    exact bodyPost_ret (resP HE.out.out rfl Tryz.results6 _ rfl) rfl ⟨rfl, HE.out.b⟩
  | true =>
    rw [hx] at HP
    rw [(inv7_txt hx).1, (inv7_txt hx).2]
    obtain ⟨⟨s1, s2, sp⟩, ix, h1, hG⟩ := pair_sizes hx
    obtain ⟨ZT, hzt, HZT⟩ := zero_tri
    have HZTs := Lib.hid hzt
    obtain ⟨ZL, hzl, HZL⟩ := zero_limb
    have HZLs := Lib.hid hzl
    have I1 := Lib.hid (fun w => pairOf_any x p w s1 s2 sp)
    have HI := Lib.hid (And.intro ix (And.intro (norm_in ix) (And.intro h1 hG)))
    obtain ⟨n, hn⟩ : ∃ n, gV p = n := ⟨_, rfl⟩
    obtain ⟨X, hX⟩ : ∃ X, valP x = X := ⟨_, rfl⟩
    rw [hn, hX] at HI I1 ⊢
    clear hx s1 s2 sp h1 hzt hzl ix hG hn hX
    go_enter Tryz.func6, Tryz.ntmps6
    go_wp2_with (first | refine load_p rfl (.tmp 2) rfl w.heap.size x rfl HX0.out ?_)
    generalize (w.alloc _).alloc _ = w0 at *
    refine (HP.out _).mono ?_
    rintro e w1 ⟨rfl, b1⟩
    have HB1 := Lib.hid (HB.out.on b1)
    have HX1 := Lib.hid (stays b1 HX0.out)
    clear b1 HB HX0 HP
    go_wp2_with (first | refine load_p rfl (.tmp 2) rfl w.heap.size x rfl HX1.out ?_)
    refine (I1.out _).mono ?_
    rintro e w2 ⟨q, a, b, rfl, T, b2⟩
    have HT := Lib.hid T
    have HG2 := Lib.hid (begun1 (Held.none w2) ZT 45)
    have HE2 := Lib.hid (HG2.out.put (Nat.le_refl _) (triC q a b))
    have HB2 := Lib.hid ((HB1.out.on b2).on HE2.out.b)
    clear b2 HB1 HX1 I1 T
    go_wp2_with (first | refine store_v rfl 45 (.tmp 6) (.tmp 19) rfl w2.heap.size ZT (triC q a b) rfl rfl HG2.out.out (by rw [HT.out.size]; exact Tryz.infoTri) (HZTs.out.trans HT.out.size.symm) (tri_one _ _ _) ?_)
    generalize (w2.alloc _).setRow _ _ = w3 at *
    refine (norm_any HE2.out.out HT.out HI.out.1 HI.out.2.2.2).mono ?_
    rintro e w4 ⟨m, rfl, hm, bw4⟩
    have HM := Lib.hid hm
    have HT4 := Lib.hid (stays bw4 HE2.out.out)
    have HB4 := Lib.hid (HB2.out.on bw4)
    clear bw4 HB2 HG2 HE2 hm
    go_wp2_with fail
    refine (pinverse_any (HT.out.rowP HT4.out) HM.out HT.out.hp HI.out.2.1 HI.out.2.2.1 HI.out.2.2.2).mono ?_
    rintro e w5 ⟨r, rfl, k1, k2, bw5⟩
    have HLn := Lib.hid k2
    have HT5 := Lib.hid (stays bw5 HT4.out)
    have HG5 := Lib.hid (begun1 ((Held.none w5).cons HT5.out) ZL 41)
    have HE5 := Lib.hid (HG5.out.put (Nat.le_refl _) r.C)
    have HB5 := Lib.hid ((HB4.out.on bw5).on HE5.out.b)
    clear bw5 HB4 HT4 HT5 k2
    by_cases hg : Nat.gcd n (normP n X) = 1
    · obtain ⟨hr, hlt⟩ := k1 hg
      have hd : decide (Nat.gcd n (normP n X) = 1) = true := decide_eq_true hg
      have HR := Lib.hid hr
      have hin : InP2 n (invN (normP n X) n, 0) := ⟨hlt, by have := HI.out.2.2.1; show 0 < n; omega⟩
      have hot := otherP_in (show 0 < n by have := HI.out.2.2.1; omega) HI.out.1
      have hres : mulP n (otherP n X) (invN (normP n X) n, 0) = inv7 X n := by rw [mul_part hlt]; unfold inv7; rw [if_pos hg]
      have HIn := Lib.hid (And.intro hin (And.intro hot (And.intro hres (inv7_in (x := X) (show 0 < n by have := HI.out.2.2.1; omega)))))
      rw [hd]
      have HD := Lib.hid hd
      generalize invN (normP n X) n = mm at *
      obtain ⟨YY, hYY⟩ : ∃ Y, inv7 X n = Y := ⟨_, rfl⟩
      have HY := Lib.hid hYY
      rw [hYY] at HIn
      clear hr hlt hg hd k1 hin hot hres hYY
      go_wp2_with (first | refine store_v rfl 41 (.tmp 7) (.tmp 24) rfl w5.heap.size ZL r.C rfl rfl HG5.out.out (by rw [HR.out.size]; exact Tryz.infoLimb) (HZLs.out.trans HR.out.size.symm) (rowC_one _ _) ?_ | refine load_v rfl 41 (.tmp 7) rfl w5.heap.size r.C rfl HE5.out.out Tryz.underlying41 rfl (by rw [HR.out.size]; exact Tryz.infoLimb) ?_ | refine build_v rfl 41 rfl zRw.C built_limb ?_)
      generalize (w5.alloc _).setRow _ _ = w6 at *
      have HT6 := Lib.hid (show _ = some (Obj.cells (triC q a b) 45 (0, 0)) from HE5.out.h _ (.head _))
      refine (with_any (y := (mm, 0)) HT6.out HT.out HR.out zRw_ok).mono ?_
      rintro e w7 ⟨q7, a7, b7, rfl, T7, bw7⟩
      have H7 := Lib.hid T7
      have HT7 := Lib.hid (stays bw7 HT6.out)
      have HB7 := Lib.hid (HB5.out.on bw7)
      clear bw7 T7 HT6 HB5 HG5 HE5
      go_wp2_with fail
      refine (other_any HT7.out HT.out HI.out.1 HI.out.2.2.2).mono ?_
      rintro e w8 ⟨q8, a8, b8, rfl, T8, bw8⟩
      have H8 := Lib.hid T8
      have HZ8 := Lib.hid (heap_alloc2_old w8 (.cells ZT 45) (.cells ZT 45))
      have HZ9 := Lib.hid (heap_alloc2_new w8 (.cells ZT 45) (.cells ZT 45))
      have HL := Lib.hid (two_laid (w := w8) (C' := triC q7 a7 b7) (D' := triC q8 a8 b8) HZ8.out HZ9.out (((Below.refl w8.heap.size w8).alloc (Nat.le_refl _) (.cells ZT 45)).alloc (by simp) (.cells ZT 45)) (Nat.le_refl _))
      have HB8 := Lib.hid ((HB7.out.on bw8).on HL.out.2.2.2)
      clear bw8 T8 HT7 HB7
      go_wp2_with (first | refine store_v rfl 45 (.tmp 9) (.tmp 31) rfl w8.heap.size ZT (triC q7 a7 b7) rfl rfl HZ8.out (by rw [H7.out.size]; exact Tryz.infoTri) (HZTs.out.trans H7.out.size.symm) (tri_one _ _ _) ?_ | refine store_v rfl 45 (.tmp 10) (.tmp 32) rfl (w8.heap.size + 1) ZT (triC q8 a8 b8) rfl rfl HL.out.1 (by rw [H8.out.size]; exact Tryz.infoTri) (HZTs.out.trans H8.out.size.symm) (tri_one _ _ _) ?_)
      refine (times_any HL.out.2.2.1 HL.out.2.1 H8.out H7.out HIn.out.2.1 HIn.out.1 HI.out.2.2.2).mono ?_
      rw [HIn.out.2.2.1]
      rintro e w9 ⟨q9, a9, b9, rfl, T9, bw9⟩
      have H9 := Lib.hid T9
      have HG9 := Lib.hid (begun1 (Held.none w9) ZT 45)
      have HE9 := Lib.hid (HG9.out.put (Nat.le_refl _) (triC q9 a9 b9))
      have HB9 := Lib.hid ((HB8.out.on bw9).on HE9.out.b)
      clear bw9 T9 HL HB8 HZ8 HZ9
      go_wp2_with (first | refine store_v rfl 45 (.tmp 11) (.tmp 33) rfl w9.heap.size ZT (triC q9 a9 b9) rfl rfl HG9.out.out (by rw [H9.out.size]; exact Tryz.infoTri) (HZTs.out.trans H9.out.size.symm) (tri_one _ _ _) ?_)
      refine (told_any HE9.out.out H9.out HIn.out.2.2.2 HI.out.2.2.2).mono ?_
      rintro e wa ⟨rfl, bwa⟩
      have HBa := Lib.hid (HB9.out.on bwa)
      have HE := Lib.hid (HBa.out.put (show w.heap.size ≤ w.heap.size + 1 by omega) (aggT (txtP YY)))
      clear bwa HB9 HG9 HE9
      go_wp2_with (first | refine store_p rfl (.tmp 4) (.tmp 34) rfl (w.heap.size + 1) _ (txtP YY) rfl rfl HBa.out.out rfl ?_)
      exact bodyPost_ret (resP HE.out.out rfl Tryz.results6 _ rfl) rfl ⟨by rw [HY.out, HD.out] <;> rfl, HE.out.b⟩
    · have hd : decide (Nat.gcd n (normP n X) = 1) = false := decide_eq_false hg
      have hres : txtP (inv7 X n) = noP := by unfold inv7; rw [if_neg hg, noP_txt]
      rw [hd]
      have HD := Lib.hid hd
      have HY := Lib.hid hres
      have HE := Lib.hid (HB5.out.put (show w.heap.size ≤ w.heap.size + 1 by omega) (aggT noP))
      clear hg hd hres k1
      go_wp2_with (first | refine store_v rfl 41 (.tmp 7) (.tmp 24) rfl w5.heap.size ZL r.C rfl rfl HG5.out.out (by rw [show r.C.size = 82 from rowC_size82 HLn.out]; exact Tryz.infoLimb) (by rw [HZLs.out, show r.C.size = 82 from rowC_size82 HLn.out]) (rowC_one _ _) ?_ | refine store_p rfl (.tmp 4) (.tmp 28) rfl (w.heap.size + 1) _ noP rfl rfl HB5.out.out rfl ?_)
      exact bodyPost_ret (resP HE.out.out rfl Tryz.results6 _ rfl) rfl ⟨by rw [HY.out, HD.out] <;> rfl, HE.out.b⟩
end Go.Proofs.YtflfeepgkcamnaaGreat

/-
  The contract of impl.PowPair.
-/
namespace Go.Proofs.YtflfeepgkcamnaaGreat
open Go.RowKit

theorem Laid.put' {w wf : World} {g g' : Nat} {C C' : Array Value} {t : TypeId} {o : Nat} {Z : Array Value} {tz : TypeId} (h : Laid w wf g g' C C' t o Z tz) (l : w.heap.size ≤ g') (ne : g ≠ g') (no : g' ≠ o) (D : Array Value) : Laid w (wf.setRow g' D) g g' C D t o Z tz :=
  ⟨(setRow_other _ _ _ _ ne).trans h.h, setRow_heap _ _ _ _ _ _ h.h', (setRow_other _ _ _ _ (Ne.symm no)).trans h.out, below_setRow2 h.b l _⟩
set_option maxRecDepth 8000 in
set_option maxHeartbeats 8000000 in
theorem powPair_i (x : Pt) (m p : ByteArray) (w : World) : Calls Tryz.prog 9 #[.agg (aggT x), .string m, .string p] w fun e w' => e = .returned (.agg (aggT (powPG x m p))) ∧ Below w.heap.size w w' := by
  have HP := Lib.hid (pairOk_i x p)
  have HK := Lib.hid (greatOk_i m)
  have HB := Lib.hid (begun2 (Held.none w) (aggT x) #[.string ⟨#[]⟩, .string ⟨#[]⟩] 25 25)
  have HX0 := Lib.hid (show _ = some (Obj.cells (aggT x) 25 (0, 0)) from HB.out.h _ (.head _))
  unfold powPG
  cases hx : pairB x p with
  | false =>
    rw [hx] at HP
    rw [Bool.false_and, if_neg (by decide)]
    clear hx
    go_enter Tryz.func9, Tryz.ntmps9
    go_wp2_with (first | refine load_p rfl (.tmp 3) rfl w.heap.size x rfl HX0.out ?_)
    generalize (w.alloc _).alloc _ = w0 at *
    refine (HP.out _).mono ?_
    rintro e w1 ⟨rfl, b1⟩
    have HB1 := Lib.hid (HB.out.on b1)
    have HE := Lib.hid (HB1.out.put (show w.heap.size ≤ w.heap.size + 1 by omega) (aggT noP))
    clear b1 HB HX0
    go_wp2_with (first | refine store_p rfl (.tmp 6) (.tmp 19) rfl (w.heap.size + 1) _ noP rfl rfl HB1.out.out rfl ?_)
    exact bodyPost_ret (results_cell_row Tryz.results9 _ _ (w.heap.size + 1) _ _ _ _ rfl HE.out.out Tryz.underlying25 rfl Tryz.infoP) rfl ⟨rfl, HE.out.b⟩
  | true =>
    rw [hx] at HP
    rw [Bool.true_and]
    cases hm : okG m with
    | false =>
      rw [hm] at HK
      rw [if_neg (by decide)]
      clear hx hm
      go_enter Tryz.func9, Tryz.ntmps9
      go_wp2_with (first | refine load_p rfl (.tmp 3) rfl w.heap.size x rfl HX0.out ?_)
      generalize (w.alloc _).alloc _ = w0 at *
      refine (HP.out _).mono ?_
      rintro e w1 ⟨rfl, b1⟩
      have HB1 := Lib.hid (HB.out.on b1)
      have HE := Lib.hid (HB1.out.put (show w.heap.size ≤ w.heap.size + 1 by omega) (aggT noP))
      clear b1 HB HX0
      go_wp2_with fail
      refine (HK.out _).mono ?_
      rintro e w2 ⟨rfl, rfl⟩
      go_wp2_with (first | refine store_p rfl (.tmp 6) (.tmp 19) rfl (w.heap.size + 1) _ noP rfl rfl HB1.out.out rfl ?_)
      exact bodyPost_ret (results_cell_row Tryz.results9 _ _ (w.heap.size + 1) _ _ _ _ rfl HE.out.out Tryz.underlying25 rfl Tryz.infoP) rfl ⟨rfl, HE.out.b⟩
    | true =>
      rw [hm] at HK
      rw [if_pos rfl]
      obtain ⟨⟨s1, s2, sp⟩, ix, h1, hn⟩ := pair_sizes hx
      obtain ⟨ZT, hzt, HZT⟩ := zero_tri
      have HZTs := Lib.hid hzt
      have I1 := Lib.hid (fun w => pairOf_any x p w s1 s2 sp)
      have I2 := Lib.hid (fun w => pairOf_any (⟨#[1]⟩, ⟨#[]⟩) p w (by decide) (by decide) sp)
      rw [show valP (⟨#[1]⟩, ⟨#[]⟩) = (1, 0) from rfl] at I2
      unfold aggT at I2
      have HBs := Lib.hid (bitsOf_i m)
      have EB : bitsG m = (bitLen (gV m) : Int) := by unfold bitsG; rw [hm]; rfl
      rw [EB] at HBs
      have hL3 := bits_1280 hm
      have hbits := lt_bits (gV m)
      have HBit : Hid (∀ i : Nat, i < bitLen (gV m) → ∀ w, Calls Tryz.prog 38 #[.string m, .int .i64 (i : Int)] w fun e w' => e = .returned (.int .i64 ((gV m / 2 ^ i % 2 : Nat) : Int)) ∧ w = w') := fun i hi w => by
        rw [← bit_pow hm hi]
        exact bitOf_i m (i : Int) (by omega) w
      obtain ⟨M, hM⟩ : ∃ M, gV m = M := ⟨_, rfl⟩
      rw [hM] at HBs hL3 hbits HBit ⊢
      obtain ⟨L, hL⟩ : ∃ L, bitLen M = L := ⟨_, rfl⟩
      rw [hL] at HBs hL3 hbits HBit
      have Hb := Lib.hid hbits
      obtain ⟨n, hnn⟩ : ∃ n, gV p = n := ⟨_, rfl⟩
      rw [hnn] at ix h1 hn I1 I2 ⊢
      obtain ⟨X, hX⟩ : ∃ X, valP x = X := ⟨_, rfl⟩
      rw [hX] at ix I1 ⊢
      have HIX := Lib.hid ix
      have HGB := Lib.hid hn
      clear hx s1 s2 sp EB hM hL hbits hnn hX hm ix hn hzt
      go_enter Tryz.func9, Tryz.ntmps9
      go_wp2_with (first | refine load_p rfl (.tmp 3) rfl w.heap.size x rfl HX0.out ?_)
      generalize (w.alloc _).alloc _ = w0 at *
      refine (HP.out _).mono ?_
      rintro e w1 ⟨rfl, b1⟩
      have HB1 := Lib.hid (HB.out.on b1)
      have HX1 := Lib.hid (stays b1 HX0.out)
      clear b1 HB HX0 HP
      go_wp2_with fail
      refine (HK.out _).mono ?_
      rintro e w2 ⟨rfl, rfl⟩
      clear HK
      go_wp2_with (first | refine load_p rfl (.tmp 3) rfl w.heap.size x rfl HX1.out ?_)
      refine (I1.out _).mono ?_
      rintro e w3 ⟨p1, a1, b1, rfl, T1, bw3⟩
      have HT1 := Lib.hid T1
      have HB3 := Lib.hid (HB1.out.on bw3)
      clear bw3 T1 HB1 HX1 I1
      go_wp2_with fail
      refine (I2.out _).mono ?_
      rintro e w4 ⟨p2, a2, b2, rfl, T2, bw4⟩
      have HT2 := Lib.hid T2
      have HB4 := Lib.hid (HB3.out.on bw4)
      have HZ8 := Lib.hid (heap_alloc2_old w4 (.cells ZT 45) (.cells ZT 45))
      have HZ9 := Lib.hid (heap_alloc2_new w4 (.cells ZT 45) (.cells ZT 45))
      have HL := Lib.hid (two_laid (w := w4) (C' := triC p1 a1 b1) (D' := triC p2 a2 b2) HZ8.out HZ9.out (((Below.refl w4.heap.size w4).alloc (Nat.le_refl _) (.cells ZT 45)).alloc (by simp) (.cells ZT 45)) (Nat.le_refl _))
      have HB5 := Lib.hid (HB4.out.on HL.out.2.2.2)
      have HLa := Lib.hid (Laid.mk HL.out.2.1 HL.out.2.2.1 HB5.out.out HB5.out.b)
      have hsz := HB4.out.b.size
      have hos := (Array.getElem?_eq_some_iff.1 HB4.out.out).1
      clear bw4 T2 HB3 I2
      go_wp2_with (first | refine store_v rfl 45 (.tmp 7) (.tmp 22) rfl w4.heap.size ZT (triC p1 a1 b1) rfl rfl HZ8.out (by rw [HT1.out.size]; exact Tryz.infoTri) (HZTs.out.trans HT1.out.size.symm) (tri_one _ _ _) ?_ | refine store_v rfl 45 (.tmp 8) (.tmp 25) rfl (w4.heap.size + 1) ZT (triC p2 a2 b2) rfl rfl HL.out.1 (by rw [HT2.out.size]; exact Tryz.infoTri) (HZTs.out.trans HT2.out.size.symm) (tri_one _ _ _) ?_)
      generalize World.setRow (World.setRow _ _ _) _ _ = w5 at *
      clear HZ8 HZ9 HL HB5 HB4
      have hne : w4.heap.size ≠ w4.heap.size + 1 := by omega
      have hno : w4.heap.size + 1 ≠ w.heap.size + 1 := by omega
      have hle : w.heap.size ≤ w4.heap.size + 1 := by omega
      obtain ⟨g8, hg8⟩ : ∃ g, w4.heap.size + 1 = g := ⟨_, rfl⟩
      rw [hg8] at HLa hne hno hle ⊢
      obtain ⟨g7, hg7⟩ : ∃ g, w4.heap.size = g := ⟨_, rfl⟩
      rw [hg7] at HLa hne ⊢
      have HNE := Lib.hid (And.intro hne (And.intro hno hle))
      clear hg7 hg8 hsz hos hne hno hle
      refine (HBs.out _).mono ?_
      rintro e w9 ⟨rfl, rfl⟩
      have e0 : (1, 0) = powP n X (M / 2 ^ L) := by rw [Nat.div_eq_of_lt Hb.out, powP_zero h1]
      have HE0 := Lib.hid e0
      clear HBs Hb e0
      go_wp2
      go_loopw [9] (fun iv wr => ∃ (k : Nat) (a : Pn) (p2 a2 b2 : Rw), k ≤ L ∧ iv = .int .i64 ((k : Int) - 1) ∧ Hid (a = powP n X (M / 2 ^ k)) ∧ Hid (Tri n a p2 a2 b2) ∧ Hid (Laid w wr g7 g8 (triC p1 a1 b1) (triC p2 a2 b2) 45 (w.heap.size + 1) #[.string ⟨#[]⟩, .string ⟨#[]⟩] 25)) (fun iv _ => (intOf iv + 1).toNat)
      case atStart => exact ⟨L, (1, 0), p2, a2, b2, Nat.le_refl _, rfl, HE0, HT2, HLa⟩
      case round =>
        clear HLa HE0 HT2
        obtain ⟨k, a, p3, a3, b3, hk, rfl, hA, hT, hP⟩ := hrel
        by_cases hk0 : 0 < k
        · obtain ⟨i, rfl⟩ : ∃ i, k = i + 1 := ⟨k - 1, by omega⟩
          have hji : (((i + 1 : Nat) : Int) - 1) = (i : Int) := by omega
          rw [hji]
          have hi0 : (0 : Int) ≤ (i : Int) := by omega
          have h0 : 0 < n := by omega
          have ia : InP2 n a := by rw [hA.out]; exact powP_in h0 _ _
          have M1 := Lib.hid (times_any hP.out.h' hP.out.h' hT.out hT.out ia ia HGB.out)
          have HSt := Lib.hid (powP_step h0 HIX.out i M hA.out rfl)
          have HBi := Lib.hid (HBit.out i (by omega))
          obtain ⟨bt0, hbt⟩ : ∃ b, M / 2 ^ i % 2 = b := ⟨_, rfl⟩
          rw [hbt] at HBi HSt
          have hb2 : bt0 = 0 ∨ bt0 = 1 := by omega
          clear hbt hA
          go_wp2_with fail
          refine M1.out.mono ?_
          rintro e wa ⟨p4, a4, b4, rfl, T4, bwa⟩
          have HTo := hT
          have HT4 := Lib.hid T4
          have HPa := Lib.hid (hP.out.on bwa)
          have HPb := Lib.hid (HPa.out.put' HNE.out.2.2 HNE.out.1 HNE.out.2.1 (triC p4 a4 b4))
          have im : InP2 n (mulP n a a) := mulP_in h0 _ _
          generalize mulP n a a = aa at *
          clear bwa T4 hP M1 hT
          go_wp2_with (first | refine store_v rfl 45 (.tmp 8) (.tmp 33) rfl g8 (triC p3 a3 b3) (triC p4 a4 b4) rfl rfl HPa.out.h' (by rw [HT4.out.size]; exact Tryz.infoTri) (HTo.out.size.trans HT4.out.size.symm) (tri_one _ _ _) ?_)
          generalize World.setRow _ _ _ = wb at *
          refine (HBi.out _).mono ?_
          rintro e w6 ⟨rfl, rfl⟩
          clear HPa HBi HTo
          rcases hb2 with hb | hb
          · have HA2 := Lib.hid (HSt.out.2 hb)
            subst hb
            clear HSt
            go_wp2
            go_roundw
            case rel => exact ⟨i, aa, p4, a4, b4, by omega, by go_num, HA2, HT4, HPb⟩
            case measure => simp [intOf]
          · have HA2 := Lib.hid (HSt.out.1 hb)
            subst hb
            have M2 := Lib.hid (times_any HPb.out.h' HPb.out.h HT4.out HT1.out im HIX.out HGB.out)
            clear HSt
            go_wp2_with fail
            refine M2.out.mono ?_
            rintro e wc ⟨p5, a5, b5, rfl, T5, bwc⟩
            have HT5 := Lib.hid T5
            have HPc := Lib.hid (HPb.out.on bwc)
            have HPd := Lib.hid (HPc.out.put' HNE.out.2.2 HNE.out.1 HNE.out.2.1 (triC p5 a5 b5))
            clear bwc T5 M2 HPb
            go_wp2_with (first | refine store_v rfl 45 (.tmp 8) (.tmp 38) rfl g8 (triC p4 a4 b4) (triC p5 a5 b5) rfl rfl HPc.out.h' (by rw [HT5.out.size]; exact Tryz.infoTri) (HT4.out.size.trans HT5.out.size.symm) (tri_one _ _ _) ?_)
            generalize World.setRow _ _ _ = wd at *
            go_roundw
            case rel => exact ⟨i, _, p5, a5, b5, by omega, by go_num, HA2, HT5, HPd⟩
            case measure => simp [intOf]
        · obtain rfl : k = 0 := by omega
          have hneg : ¬ (0 : Int) ≤ ((0 : Nat) : Int) - 1 := by omega
          have hA2 := hA.out
          rw [Nat.pow_zero, Nat.div_one] at hA2
          have h0 : 0 < n := by omega
          have ia : InP2 n a := by rw [hA2]; exact powP_in h0 _ _
          have O1 := Lib.hid (told_any hP.out.h' hT.out ia HGB.out)
          have HE := Lib.hid hA2
          have HPr := hP
          clear hA hA2 hP
          go_wp2_with fail
          refine O1.out.mono ?_
          rintro e w6 ⟨rfl, b6⟩
          have HP6 := Lib.hid (HPr.out.on b6)
          have HO6 := Lib.hid HP6.out.out
          have HW := Lib.hid (below_setRow2 HP6.out.b (show w.heap.size ≤ w.heap.size + 1 by omega) (aggT (txtP a)))
          have HR := Lib.hid (setRow_heap w6 (w.heap.size + 1) _ (aggT (txtP a)) _ _ HO6.out)
          clear b6 HPr O1 HP6
          go_wp2_with (first | refine store_p rfl (.tmp 6) (.tmp 39) rfl (w.heap.size + 1) _ (txtP a) rfl rfl HO6.out rfl ?_)
          exact bodyPost_ret (results_cell_row Tryz.results9 _ _ (w.heap.size + 1) _ _ _ _ rfl HR.out Tryz.underlying25 rfl Tryz.infoP) rfl ⟨by rw [HE.out] <;> rfl, HW.out⟩
end Go.Proofs.YtflfeepgkcamnaaGreat

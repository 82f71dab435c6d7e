import Derived.Test.YtdajgcgliidjbaaGreatZPoint
import Derived.Test.YtdajgcgliidjbaaGreatUInvs
set_option maxRecDepth 8000
set_option maxHeartbeats 16000000
namespace Go.Proofs.YtdajgcgliidjbaaGreat
open Go.RowKit
def iAdd15 : List OpI := [⟨0, some 72, [12]⟩, ⟨0, some 73, [12]⟩, ⟨0, some 74, [2]⟩, ⟨7, some 75, [72, 73, 74]⟩, ⟨0, some 76, [3]⟩, ⟨16, some 77, [76]⟩, ⟨0, some 78, [2]⟩, ⟨104, some 79, [75, 77, 78]⟩, ⟨0, some 80, [4]⟩, ⟨256, some 81, [80]⟩, ⟨0, some 82, [2]⟩, ⟨1664, some 83, [79, 81, 82]⟩, ⟨0, some 13, []⟩, ⟨8191, none, [13, 83]⟩]
theorem ladd10_chord {w : World} {vp : Value} {A B : Pn × Pn} {A1 A2 A3 A4 B1 B2 B3 B4 : Option Addr} {n1 c1 n2 c2 n3 c3 n4 c4 m1 d1 m2 d2 m3 d3 m4 d4 : Nat} {n : Nat} (hA : PtX w (.agg (ptC false (.slice A1 n1 c1) (.slice A2 n2 c2) (.slice A3 n3 c3) (.slice A4 n4 c4))) (some A)) (hB : PtX w (.agg (ptC false (.slice B1 m1 d1) (.slice B2 m2 d2) (.slice B3 m3 d3) (.slice B4 m4 d4))) (some B)) (hp : RowX w vp n) (iA : InP2 n A.1 ∧ InP2 n A.2) (iB : InP2 n B.1 ∧ InP2 n B.2) (hn : n < GB) (h1 : 1 < n) (h : subP n B.1 A.1 ≠ (0, 0)) :
  Calls Tryz.prog 47 #[.agg (ptC false (.slice A1 n1 c1) (.slice A2 n2 c2) (.slice A3 n3 c3) (.slice A4 n4 c4)), .agg (ptC false (.slice B1 m1 d1) (.slice B2 m2 d2) (.slice B3 m3 d3) (.slice B4 m4 d4)), vp] w (PtTo (some (lineP n A B (subP n B.2 A.2) (subP n B.1 A.1))) w) := by
 have HP := Lib.hid hp
 obtain ⟨pA, pn, pc, rfl⟩ := hp.shape
 obtain ⟨xA, yA⟩ := A
 obtain ⟨xB, yB⟩ := B
 have HXA := Lib.hid (PtX.pairs hA).2.1
 have HYA := Lib.hid (PtX.pairs hA).2.2
 have HXB := Lib.hid (PtX.pairs hB).2.1
 have HYB := Lib.hid (PtX.pairs hB).2.2
 have HI := Lib.hid (And.intro iA.1 (And.intro iA.2 (And.intro iB.1 (And.intro iB.2 (And.intro hn h1)))))
 have HZ := Lib.hid (decide_eq_false h)
 obtain ⟨RR, hRR⟩ : ∃ R, lineP n (xA, yA) (xB, yB) (subP n yB yA) (subP n xB xA) = R := ⟨_, rfl⟩
 have HR := Lib.hid hRR
 rw [hRR]
 unfold PtTo
 simp only at HXA HYA HXB HYB HI HZ
 clear hRR
 have HG0 := Lib.hid (begun3 (Held.none w) (ptC false (.slice A1 n1 c1) (.slice A2 n2 c2) (.slice A3 n3 c3) (.slice A4 n4 c4)) (ptC false (.slice B1 m1 d1) (.slice B2 m2 d2) (.slice B3 m3 d3) (.slice B4 m4 d4)) #[.bool false, .slice none 0 0, .slice none 0 0, .slice none 0 0, .slice none 0 0] 61 61 61)
 clear hp h iA iB hn h1 hA hB
 go_enter Tryz.func47, Tryz.ntmps47
 go_upto_region 1 with (fail)
 generalize ((w.alloc _).alloc _).alloc _ = w0 at *
 have HHB := Lib.hid (show _ = some (Obj.cells (ptC false (.slice B1 m1 d1) (.slice B2 m2 d2) (.slice B3 m3 d3) (.slice B4 m4 d4)) 61 (0, 0)) from HG0.out.h ((w.heap.size + 1), ptC false (.slice B1 m1 d1) (.slice B2 m2 d2) (.slice B3 m3 d3) (.slice B4 m4 d4), 61) (.head _))
 have HHA := Lib.hid (show _ = some (Obj.cells (ptC false (.slice A1 n1 c1) (.slice A2 n2 c2) (.slice A3 n3 c3) (.slice A4 n4 c4)) 61 (0, 0)) from HG0.out.h (w.heap.size, ptC false (.slice A1 n1 c1) (.slice A2 n2 c2) (.slice A3 n3 c3) (.slice A4 n4 c4), 61) (.tail _ (.head _)))
 have za := pt_z HHA.out
 have zb := pt_z HHB.out
 go_wp2_with (first | refine load_mid rfl (.tmp 20) rfl (w.heap.size + 1) 3 _ (.slice B3 m3 d3) (.slice B4 m4 d4) rfl HHB.out rfl rfl ?_ | refine load_mid rfl (.tmp 22) rfl w.heap.size 3 _ (.slice A3 n3 c3) (.slice A4 n4 c4) rfl HHA.out rfl rfl ?_)
 clear za zb
 refine (lsub7_x (HYB.out.below HG0.out.b) (HYA.out.below HG0.out.b) (HP.out.below HG0.out.b) HI.out.2.2.2.1 HI.out.2.1 HI.out.2.2.2.2.1).mono ?_
 rintro e w1 ⟨v1, rfl, k1, b1⟩
 obtain ⟨q1, rfl⟩ := k1.q
 have Zq1 := Lib.hid k1.arr
 have HG1 := Lib.hid (HG0.out.on b1)
 have HN1 := Lib.hid (heap_alloc_new w1 (.cells #[.slice none 0 0, .slice none 0 0] 59))
 have APq1 := Lib.hid HG1.out.h.apart
 have GEq1 := Lib.hid HG1.out.b.size
 have bu1 := below_setRow2 ((Below.refl w1.heap.size w1).alloc (Nat.le_refl _) (.cells #[.slice none 0 0, .slice none 0 0] 59)) (Nat.le_refl _) q1
 have HG2 := Lib.hid ((HG1.out.new #[.slice none 0 0, .slice none 0 0] 59).putAt HG1.out.b.size HG1.out.h.apart q1)
 have Rq1 := Lib.hid (k1.below bu1)
 clear k1 b1 bu1 HG0 HG1
 have HHnew := Lib.hid (show _ = some (Obj.cells (q1) 59 (0, 0)) from HG2.out.h (w1.heap.size, q1, 59) (.head _))
 have HHB := Lib.hid (show _ = some (Obj.cells (ptC false (.slice B1 m1 d1) (.slice B2 m2 d2) (.slice B3 m3 d3) (.slice B4 m4 d4)) 61 (0, 0)) from HG2.out.h ((w.heap.size + 1), ptC false (.slice B1 m1 d1) (.slice B2 m2 d2) (.slice B3 m3 d3) (.slice B4 m4 d4), 61) (.tail _ (.head _)))
 have HHA := Lib.hid (show _ = some (Obj.cells (ptC false (.slice A1 n1 c1) (.slice A2 n2 c2) (.slice A3 n3 c3) (.slice A4 n4 c4)) 61 (0, 0)) from HG2.out.h (w.heap.size, ptC false (.slice A1 n1 c1) (.slice A2 n2 c2) (.slice A3 n3 c3) (.slice A4 n4 c4), 61) (.tail _ (.tail _ (.head _))))
 go_wp2_with (first | refine store_v rfl 59 (.tmp 7) (.tmp 25) rfl w1.heap.size _ q1 rfl rfl HN1.out (by rw [Zq1.out.1]; exact Tryz.info7) (by rw [Zq1.out.1]; rfl) Zq1.out.2 ?_ | refine load_mid rfl (.tmp 26) rfl (w.heap.size + 1) 1 _ (.slice B1 m1 d1) (.slice B2 m2 d2) rfl HHB.out rfl rfl ?_ | refine load_mid rfl (.tmp 28) rfl w.heap.size 1 _ (.slice A1 n1 c1) (.slice A2 n2 c2) rfl HHA.out rfl rfl ?_)
 clear HN1
 generalize (w1.alloc _).setRow _ _ = u1 at *
 generalize w1.heap.size = g1 at *
 refine (lsub7_x (HXB.out.below HG2.out.b) (HXA.out.below HG2.out.b) (HP.out.below HG2.out.b) HI.out.2.2.1 HI.out.1 HI.out.2.2.2.2.1).mono ?_
 rintro e w2 ⟨v2, rfl, k2, b2⟩
 obtain ⟨q2, rfl⟩ := k2.q
 have Zq2 := Lib.hid k2.arr
 have HG3 := Lib.hid (HG2.out.on b2)
 have HN2 := Lib.hid (heap_alloc_new w2 (.cells #[.slice none 0 0, .slice none 0 0] 59))
 have APq2 := Lib.hid HG3.out.h.apart
 have GEq2 := Lib.hid HG3.out.b.size
 have bu2 := below_setRow2 ((Below.refl w2.heap.size w2).alloc (Nat.le_refl _) (.cells #[.slice none 0 0, .slice none 0 0] 59)) (Nat.le_refl _) q2
 have HG4 := Lib.hid ((HG3.out.new #[.slice none 0 0, .slice none 0 0] 59).putAt HG3.out.b.size HG3.out.h.apart q2)
 have Rq1 := Lib.hid ((Rq1.out.below b2).below bu2)
 have Rq2 := Lib.hid (k2.below bu2)
 clear k2 b2 bu2 HG2 HG3
 have HHnew := Lib.hid (show _ = some (Obj.cells (q2) 59 (0, 0)) from HG4.out.h (w2.heap.size, q2, 59) (.head _))
 have HHg1 := Lib.hid (show _ = some (Obj.cells (q1) 59 (0, 0)) from HG4.out.h (g1, q1, 59) (.tail _ (.head _)))
 have HHB := Lib.hid (show _ = some (Obj.cells (ptC false (.slice B1 m1 d1) (.slice B2 m2 d2) (.slice B3 m3 d3) (.slice B4 m4 d4)) 61 (0, 0)) from HG4.out.h ((w.heap.size + 1), ptC false (.slice B1 m1 d1) (.slice B2 m2 d2) (.slice B3 m3 d3) (.slice B4 m4 d4), 61) (.tail _ (.tail _ (.head _))))
 have HHA := Lib.hid (show _ = some (Obj.cells (ptC false (.slice A1 n1 c1) (.slice A2 n2 c2) (.slice A3 n3 c3) (.slice A4 n4 c4)) 61 (0, 0)) from HG4.out.h (w.heap.size, ptC false (.slice A1 n1 c1) (.slice A2 n2 c2) (.slice A3 n3 c3) (.slice A4 n4 c4), 61) (.tail _ (.tail _ (.tail _ (.head _)))))
 go_wp2_with (first | refine store_v rfl 59 (.tmp 8) (.tmp 31) rfl w2.heap.size _ q2 rfl rfl HN2.out (by rw [Zq2.out.1]; exact Tryz.info7) (by rw [Zq2.out.1]; rfl) Zq2.out.2 ?_ | refine load_v rfl 59 (.tmp 8) rfl w2.heap.size q2 rfl HHnew.out Tryz.underlying59 rfl (by rw [Zq2.out.1]; exact Tryz.info7) ?_)
 clear HN2
 generalize (w2.alloc _).setRow _ _ = u2 at *
 generalize w2.heap.size = g2 at *
 refine (lzero7_x Rq2.out).mono ?_
 rintro e w3 ⟨he, b3⟩
 rw [HZ.out] at he
 subst he
 have HG5 := Lib.hid (HG4.out.on b3)
 have Rq1 := Lib.hid (Rq1.out.below b3)
 have Rq2 := Lib.hid (Rq2.out.below b3)
 clear b3 HG4
 have HHg2 := Lib.hid (show _ = some (Obj.cells (q2) 59 (0, 0)) from HG5.out.h (g2, q2, 59) (.head _))
 have HHg1 := Lib.hid (show _ = some (Obj.cells (q1) 59 (0, 0)) from HG5.out.h (g1, q1, 59) (.tail _ (.head _)))
 have HHB := Lib.hid (show _ = some (Obj.cells (ptC false (.slice B1 m1 d1) (.slice B2 m2 d2) (.slice B3 m3 d3) (.slice B4 m4 d4)) 61 (0, 0)) from HG5.out.h ((w.heap.size + 1), ptC false (.slice B1 m1 d1) (.slice B2 m2 d2) (.slice B3 m3 d3) (.slice B4 m4 d4), 61) (.tail _ (.tail _ (.head _))))
 have HHA := Lib.hid (show _ = some (Obj.cells (ptC false (.slice A1 n1 c1) (.slice A2 n2 c2) (.slice A3 n3 c3) (.slice A4 n4 c4)) 61 (0, 0)) from HG5.out.h (w.heap.size, ptC false (.slice A1 n1 c1) (.slice A2 n2 c2) (.slice A3 n3 c3) (.slice A4 n4 c4), 61) (.tail _ (.tail _ (.tail _ (.head _)))))
 go_wp2_with (first | refine load_v rfl 59 (.tmp 8) rfl g2 q2 rfl HHg2.out Tryz.underlying59 rfl (by rw [Zq2.out.1]; exact Tryz.info7) ?_)
 refine (linv7_x Rq2.out (HP.out.below HG5.out.b) (subP_in (Nat.lt_trans Nat.zero_lt_one HI.out.2.2.2.2.2) _ _) HI.out.2.2.2.2.1 HI.out.2.2.2.2.2).mono ?_
 rintro e w4 ⟨v4, rfl, k4, b4⟩
 generalize decide (Nat.gcd _ _ = 1) = bi at *
 obtain ⟨q3, rfl⟩ := k4.q
 have Zq3 := Lib.hid k4.arr
 have HG6 := Lib.hid (HG5.out.on b4)
 have HN4 := Lib.hid (heap_alloc_new w4 (.cells #[.slice none 0 0, .slice none 0 0] 59))
 have APq3 := Lib.hid HG6.out.h.apart
 have GEq3 := Lib.hid HG6.out.b.size
 have bu4 := below_setRow2 ((Below.refl w4.heap.size w4).alloc (Nat.le_refl _) (.cells #[.slice none 0 0, .slice none 0 0] 59)) (Nat.le_refl _) q3
 have HG7 := Lib.hid ((HG6.out.new #[.slice none 0 0, .slice none 0 0] 59).putAt HG6.out.b.size HG6.out.h.apart q3)
 have Rq1 := Lib.hid ((Rq1.out.below b4).below bu4)
 have Rq2 := Lib.hid ((Rq2.out.below b4).below bu4)
 have Rq3 := Lib.hid (k4.below bu4)
 clear k4 b4 bu4 HG5 HG6
 have HHnew := Lib.hid (show _ = some (Obj.cells (q3) 59 (0, 0)) from HG7.out.h (w4.heap.size, q3, 59) (.head _))
 have HHg2 := Lib.hid (show _ = some (Obj.cells (q2) 59 (0, 0)) from HG7.out.h (g2, q2, 59) (.tail _ (.head _)))
 have HHg1 := Lib.hid (show _ = some (Obj.cells (q1) 59 (0, 0)) from HG7.out.h (g1, q1, 59) (.tail _ (.tail _ (.head _))))
 have HHB := Lib.hid (show _ = some (Obj.cells (ptC false (.slice B1 m1 d1) (.slice B2 m2 d2) (.slice B3 m3 d3) (.slice B4 m4 d4)) 61 (0, 0)) from HG7.out.h ((w.heap.size + 1), ptC false (.slice B1 m1 d1) (.slice B2 m2 d2) (.slice B3 m3 d3) (.slice B4 m4 d4), 61) (.tail _ (.tail _ (.tail _ (.head _)))))
 have HHA := Lib.hid (show _ = some (Obj.cells (ptC false (.slice A1 n1 c1) (.slice A2 n2 c2) (.slice A3 n3 c3) (.slice A4 n4 c4)) 61 (0, 0)) from HG7.out.h (w.heap.size, ptC false (.slice A1 n1 c1) (.slice A2 n2 c2) (.slice A3 n3 c3) (.slice A4 n4 c4), 61) (.tail _ (.tail _ (.tail _ (.tail _ (.head _))))))
 go_wp2_with (first | refine store_v rfl 59 (.tmp 10) (.tmp 66) rfl w4.heap.size _ q3 rfl rfl HN4.out (by rw [Zq3.out.1]; exact Tryz.info7) (by rw [Zq3.out.1]; rfl) Zq3.out.2 ?_ | refine load_v rfl 59 (.tmp 7) rfl g1 q1 rfl HHg1.out Tryz.underlying59 rfl (by rw [Zq1.out.1]; exact Tryz.info7) ?_ | refine load_v rfl 59 (.tmp 10) rfl w4.heap.size q3 rfl HHnew.out Tryz.underlying59 rfl (by rw [Zq3.out.1]; exact Tryz.info7) ?_)
 clear HN4
 generalize (w4.alloc _).setRow _ _ = u4 at *
 generalize w4.heap.size = g3 at *
 refine (lmul7_x Rq1.out Rq3.out (HP.out.below HG7.out.b) (subP_in (Nat.lt_trans Nat.zero_lt_one HI.out.2.2.2.2.2) _ _) (inv7_in (Nat.lt_trans Nat.zero_lt_one HI.out.2.2.2.2.2)) HI.out.2.2.2.2.1).mono ?_
 rintro e w5 ⟨v5, rfl, k5, b5⟩
 obtain ⟨q4, rfl⟩ := k5.q
 have Zq4 := Lib.hid k5.arr
 have HG8 := Lib.hid (HG7.out.on b5)
 have HN5 := Lib.hid (heap_alloc_new w5 (.cells #[.slice none 0 0, .slice none 0 0] 59))
 have APq4 := Lib.hid HG8.out.h.apart
 have GEq4 := Lib.hid HG8.out.b.size
 have bu5 := below_setRow2 ((Below.refl w5.heap.size w5).alloc (Nat.le_refl _) (.cells #[.slice none 0 0, .slice none 0 0] 59)) (Nat.le_refl _) q4
 have HG9 := Lib.hid ((HG8.out.new #[.slice none 0 0, .slice none 0 0] 59).putAt HG8.out.b.size HG8.out.h.apart q4)
 have Rq1 := Lib.hid ((Rq1.out.below b5).below bu5)
 have Rq2 := Lib.hid ((Rq2.out.below b5).below bu5)
 have Rq3 := Lib.hid ((Rq3.out.below b5).below bu5)
 have Rq4 := Lib.hid (k5.below bu5)
 clear k5 b5 bu5 HG7 HG8
 have HHnew := Lib.hid (show _ = some (Obj.cells (q4) 59 (0, 0)) from HG9.out.h (w5.heap.size, q4, 59) (.head _))
 have HHg3 := Lib.hid (show _ = some (Obj.cells (q3) 59 (0, 0)) from HG9.out.h (g3, q3, 59) (.tail _ (.head _)))
 have HHg2 := Lib.hid (show _ = some (Obj.cells (q2) 59 (0, 0)) from HG9.out.h (g2, q2, 59) (.tail _ (.tail _ (.head _))))
 have HHg1 := Lib.hid (show _ = some (Obj.cells (q1) 59 (0, 0)) from HG9.out.h (g1, q1, 59) (.tail _ (.tail _ (.tail _ (.head _)))))
 have HHB := Lib.hid (show _ = some (Obj.cells (ptC false (.slice B1 m1 d1) (.slice B2 m2 d2) (.slice B3 m3 d3) (.slice B4 m4 d4)) 61 (0, 0)) from HG9.out.h ((w.heap.size + 1), ptC false (.slice B1 m1 d1) (.slice B2 m2 d2) (.slice B3 m3 d3) (.slice B4 m4 d4), 61) (.tail _ (.tail _ (.tail _ (.tail _ (.head _))))))
 have HHA := Lib.hid (show _ = some (Obj.cells (ptC false (.slice A1 n1 c1) (.slice A2 n2 c2) (.slice A3 n3 c3) (.slice A4 n4 c4)) 61 (0, 0)) from HG9.out.h (w.heap.size, ptC false (.slice A1 n1 c1) (.slice A2 n2 c2) (.slice A3 n3 c3) (.slice A4 n4 c4), 61) (.tail _ (.tail _ (.tail _ (.tail _ (.tail _ (.head _)))))))
 go_upto_region 15 with (first | refine store_v rfl 59 (.tmp 12) (.tmp 71) rfl w5.heap.size _ q4 rfl rfl HN5.out (by rw [Zq4.out.1]; exact Tryz.info7) (by rw [Zq4.out.1]; rfl) Zq4.out.2 ?_)
 clear HN5
 generalize (w5.alloc _).setRow _ _ = u5 at *
 generalize w5.heap.size = g4 at *
 obtain ⟨M, hM⟩ : ∃ M, mulP n (subP n yB yA) (inv7 (subP n xB xA) n) = M := ⟨_, rfl⟩
 have HM := Lib.hid hM
 rw [hM] at Rq4
 have iM := Lib.hid (show InP2 n M from by rw [← hM]; exact mulP_in (Nat.lt_trans Nat.zero_lt_one HI.out.2.2.2.2.2) _ _)
 clear hM
 refine Code.wp_mono (Q := fun e a' w' => e = .normal ∧ ∃ (q5 q6 q7 : Array Value) (gX : Nat), a' = { tmps := List.toArray (List.append [.agg (ptC false (.slice A1 n1 c1) (.slice A2 n2 c2) (.slice A3 n3 c3) (.slice A4 n4 c4)), .agg (ptC false (.slice B1 m1 d1) (.slice B2 m2 d2) (.slice B3 m3 d3) (.slice B4 m4 d4)), .slice pA pn pc, .pointer (some ⟨w.heap.size, 0, none⟩), .pointer (some ⟨(w.heap.size + 1), 0, none⟩), undef, .pointer (some ⟨(w.heap.size + 1 + 1), 0, none⟩), .pointer (some ⟨g1, 0, none⟩), .pointer (some ⟨g2, 0, none⟩), undef, .pointer (some ⟨g3, 0, none⟩), .bool bi, .pointer (some ⟨g4, 0, none⟩), .pointer (some ⟨gX, 0, none⟩), .pointer (some ⟨w.heap.size, 0, none⟩), .bool false, undef, .pointer (some ⟨(w.heap.size + 1), 0, none⟩), .bool false, undef, .pointer (some ⟨(w.heap.size + 1), 3, none⟩), .agg #[.slice B3 m3 d3, .slice B4 m4 d4], .pointer (some ⟨w.heap.size, 3, none⟩), .agg #[.slice A3 n3 c3, .slice A4 n4 c4], .slice pA pn pc, .agg q1, .pointer (some ⟨(w.heap.size + 1), 1, none⟩), .agg #[.slice B1 m1 d1, .slice B2 m2 d2], .pointer (some ⟨w.heap.size, 1, none⟩), .agg #[.slice A1 n1 c1, .slice A2 n2 c2], .slice pA pn pc, .agg q2, .agg q2, .bool false, undef, undef, undef, undef, undef, undef] (List.append [undef, undef, undef, undef, undef, undef, undef, undef, undef, undef, undef, undef, undef, undef, undef, undef, undef, undef, undef, undef, undef, undef, .tuple #[.agg q3, .bool bi], .agg q2, .slice pA pn pc, .tuple #[.agg q3, .bool bi], .agg q3, .bool bi, .agg q1, .agg q3, .slice pA pn pc, .agg q4, .agg q4, .agg q4, .slice pA pn pc, .agg q5, .pointer (some ⟨w.heap.size, 1, none⟩), .agg #[.slice A1 n1 c1, .slice A2 n2 c2], .slice pA pn pc, .agg q6] ([.pointer (some ⟨(w.heap.size + 1), 1, none⟩), .agg #[.slice B1 m1 d1, .slice B2 m2 d2], .slice pA pn pc, .agg q7, undef, undef, undef, undef, undef, undef, undef, undef, undef, undef, undef, undef, undef, undef]))), defers := [] } ∧ PairX w' (.agg q7) (subP n (subP n (mulP n M M) xA) xB) ∧ PairX w' (.agg q4) M ∧ Begun w w' ((gX, q7, 59) :: [(g4, q4, 59), (g3, q3, 59), (g2, q2, 59), (g1, q1, 59), ((w.heap.size + 1), ptC false (.slice B1 m1 d1) (.slice B2 m2 d2) (.slice B3 m3 d3) (.slice B4 m4 d4), 61), (w.heap.size, ptC false (.slice A1 n1 c1) (.slice A2 n2 c2) (.slice A3 n3 c3) (.slice A4 n4 c4), 61)]) (w.heap.size + 1 + 1) #[.bool false, .slice none 0 0, .slice none 0 0, .slice none 0 0, .slice none 0 0] 61) ?_ ?_
 rotate_left
 ·refine m_begin (S := fun w' => Held w' [(g4, q4, 59), (g3, q3, 59), (g2, q2, 59), (g1, q1, 59), ((w.heap.size + 1), ptC false (.slice B1 m1 d1) (.slice B2 m2 d2) (.slice B3 m3 d3) (.slice B4 m4 d4), 61), (w.heap.size, ptC false (.slice A1 n1 c1) (.slice A2 n2 c2) (.slice A3 n3 c3) (.slice A4 n4 c4), 61)]) (by kernel_rfl) 14 (by kernel_rfl) ?_
  have HG0 := Lib.hid HG9.out.drew
  have HS0 := Lib.hid HG0.out.h
  have R40 := Lib.hid (Rq4.out.below (bd7 _))
  change wpM _ _ _ _ _ _ _ _ (World.drew _)
  generalize World.drew u5 = w0 at *
  have F4 := Lib.hid (show ∀ w', Held w' [(g4, q4, 59), (g3, q3, 59), (g2, q2, 59), (g1, q1, 59), ((w.heap.size + 1), ptC false (.slice B1 m1 d1) (.slice B2 m2 d2) (.slice B3 m3 d3) (.slice B4 m4 d4), 61), (w.heap.size, ptC false (.slice A1 n1 c1) (.slice A2 n2 c2) (.slice A3 n3 c3) (.slice A4 n4 c4), 61)] → (Instr.loadAt 59 (.pointer (some ⟨g4, 0, none⟩))).run Tryz.prog w' = .ok (.agg q4) w' from fun w' hw => cells_load (show _ = some (Obj.cells (q4) 59 (0, 0)) from hw (g4, q4, 59) (.head _)) Tryz.underlying59 rfl (by rw [Zq4.out.1]; exact Tryz.info7))
  have FXA := Lib.hid (show ∀ w', Held w' [(g4, q4, 59), (g3, q3, 59), (g2, q2, 59), (g1, q1, 59), ((w.heap.size + 1), ptC false (.slice B1 m1 d1) (.slice B2 m2 d2) (.slice B3 m3 d3) (.slice B4 m4 d4), 61), (w.heap.size, ptC false (.slice A1 n1 c1) (.slice A2 n2 c2) (.slice A3 n3 c3) (.slice A4 n4 c4), 61)] → (Instr.loadAt 59 (.pointer (some ⟨w.heap.size, 1, none⟩))).run Tryz.prog w' = .ok (.agg #[.slice A1 n1 c1, .slice A2 n2 c2]) w' from fun w' hw => (pt_at (show _ = some (Obj.cells (ptC false (.slice A1 n1 c1) (.slice A2 n2 c2) (.slice A3 n3 c3) (.slice A4 n4 c4)) 61 (0, 0)) from hw (w.heap.size, ptC false (.slice A1 n1 c1) (.slice A2 n2 c2) (.slice A3 n3 c3) (.slice A4 n4 c4), 61) (.tail _ (.tail _ (.tail _ (.tail _ (.tail _ (.head _)))))))).x)
  have FXB := Lib.hid (show ∀ w', Held w' [(g4, q4, 59), (g3, q3, 59), (g2, q2, 59), (g1, q1, 59), ((w.heap.size + 1), ptC false (.slice B1 m1 d1) (.slice B2 m2 d2) (.slice B3 m3 d3) (.slice B4 m4 d4), 61), (w.heap.size, ptC false (.slice A1 n1 c1) (.slice A2 n2 c2) (.slice A3 n3 c3) (.slice A4 n4 c4), 61)] → (Instr.loadAt 59 (.pointer (some ⟨(w.heap.size + 1), 1, none⟩))).run Tryz.prog w' = .ok (.agg #[.slice B1 m1 d1, .slice B2 m2 d2]) w' from fun w' hw => (pt_at (show _ = some (Obj.cells (ptC false (.slice B1 m1 d1) (.slice B2 m2 d2) (.slice B3 m3 d3) (.slice B4 m4 d4)) 61 (0, 0)) from hw ((w.heap.size + 1), ptC false (.slice B1 m1 d1) (.slice B2 m2 d2) (.slice B3 m3 d3) (.slice B4 m4 d4), 61) (.tail _ (.tail _ (.tail _ (.tail _ (.head _))))))).x)
  refine m_seqk (f := 5) iAdd15 [(true, 0), (true, 1), (true, 2), (true, 4), (true, 5), (true, 6), (true, 8), (true, 9), (true, 10)] 1911 HS0.out ?_
  refine sq_ldk (some 72) F4.out ?_
  refine sq_ldk (some 73) F4.out ?_
  refine sq_psk [(2, .slice pA pn pc), (4, .pointer (some ⟨w.heap.size, 1, none⟩))] ?_
  refine sq_ldk (some 77) FXA.out ?_
  refine sq_psk [(6, .slice pA pn pc), (8, .pointer (some ⟨(w.heap.size + 1), 1, none⟩))] ?_
  refine sq_ldk (some 81) FXB.out ?_
  refine sq_psk [(10, .slice pA pn pc)] ?_
  refine sq_done ?_
  refine m_maskk (M' := 1911) ?_
  refine m_waysk (f := 4) iAdd15 [3, 12] ?_
  intro i hi
  rcases (by simpa using hi : i = 3 ∨ i = 12) with rfl | rfl
  ·refine sq_ck (some 75) Tryz.func63 (lmul7_x R40.out R40.out (HP.out.below HG0.out.b) iM.out iM.out HI.out.2.2.2.2.1) ?_
   rintro e x1 ⟨y1, rfl, k1, bw1⟩
   obtain ⟨q5, rfl⟩ := k1.q
   have R51 := Lib.hid k1
   have R41 := Lib.hid (R40.out.below bw1)
   have HG1 := Lib.hid (HG0.out.on bw1)
   have HS1 := Lib.hid HG1.out.h
   refine ⟨_, rfl, HS1.out, ?_⟩
   refine sq_done ?_
   refine m_maskk (M' := 1919) ?_
   refine m_waysk (f := 3) iAdd15 [7, 12] ?_
   intro i hi
   rcases (by simpa using hi : i = 7 ∨ i = 12) with rfl | rfl
   ·refine sq_ck (some 79) Tryz.func82 (lsub7_x R51.out (HXA.out.below HG1.out.b) (HP.out.below HG1.out.b) (mulP_in (Nat.lt_trans Nat.zero_lt_one HI.out.2.2.2.2.2) _ _) HI.out.1 HI.out.2.2.2.2.1) ?_
    rintro e x2 ⟨y2, rfl, k2, bw2⟩
    obtain ⟨q6, rfl⟩ := k2.q
    have R62 := Lib.hid k2
    have R42 := Lib.hid (R41.out.below bw2)
    have R52 := Lib.hid (R51.out.below bw2)
    have HG2 := Lib.hid (HG1.out.on bw2)
    have HS2 := Lib.hid HG2.out.h
    refine ⟨_, rfl, HS2.out, ?_⟩
    refine sq_done ?_
    refine m_maskk (M' := 2047) ?_
    refine m_waysk (f := 2) iAdd15 [11, 12] ?_
    intro i hi
    rcases (by simpa using hi : i = 11 ∨ i = 12) with rfl | rfl
    ·refine sq_ck (some 83) Tryz.func82 (lsub7_x R62.out (HXB.out.below HG2.out.b) (HP.out.below HG2.out.b) (subP_in (Nat.lt_trans Nat.zero_lt_one HI.out.2.2.2.2.2) _ _) HI.out.2.2.1 HI.out.2.2.2.2.1) ?_
     rintro e x3 ⟨y3, rfl, k3, bw3⟩
     obtain ⟨q7, rfl⟩ := k3.q
     have R73 := Lib.hid k3
     have R43 := Lib.hid (R42.out.below bw3)
     have R53 := Lib.hid (R52.out.below bw3)
     have R63 := Lib.hid (R62.out.below bw3)
     have HG3 := Lib.hid (HG2.out.on bw3)
     have HS3 := Lib.hid HG3.out.h
     refine ⟨_, rfl, HS3.out, ?_⟩
     refine sq_done ?_
     refine m_seqk (f := 0) iAdd15 [(false, 12), (false, 13)] 16383 HS3.out ?_
     have bz4 := (Below.refl x3.heap.size x3).alloc (Nat.le_refl _) (.cells #[.slice none 0 0, .slice none 0 0] 59)
     have AP := Lib.hid HG3.out.h.apart
     have hgeX := HG3.out.b.size
     have APo := Lib.hid (show x3.heap.size ≠ (w.heap.size + 1 + 1) from by have := (Array.getElem?_eq_some_iff.1 HG3.out.out).1; omega)
     have HX4 := Lib.hid (heap_alloc_new x3 (.cells #[.slice none 0 0, .slice none 0 0] 59))
     have HG4 := Lib.hid (HG3.out.on bz4)
     have HS4 := Lib.hid HG4.out.h
     have R44 := Lib.hid (R43.out.below bz4)
     have R54 := Lib.hid (R53.out.below bz4)
     have R64 := Lib.hid (R63.out.below bz4)
     have R74 := Lib.hid (R73.out.below bz4)
     refine sq_allock (some 13) 59 #[.slice none 0 0, .slice none 0 0] (zero_7 _) HS4.out ?_
     generalize x3.alloc _ = x4 at *
     generalize x3.heap.size = gX at *
     have HGX := Lib.hid (Begun.more HG4.out HX4.out APo.out)
     have HE := Lib.hid (HGX.out.putAt hgeX AP.out q7)
     have Z7 := Lib.hid R74.out.arr
     refine sq_st 59 gX q7 HX4.out (by rw [Z7.out.1]; exact Tryz.info7) (by rw [Z7.out.1]; rfl) Z7.out.2 (HS4.out.setRow AP.out) (by kernel_rfl) ?_
     refine sq_done ?_
     refine m_donek iAdd15 { tmps := List.toArray (List.append [.agg (ptC false (.slice A1 n1 c1) (.slice A2 n2 c2) (.slice A3 n3 c3) (.slice A4 n4 c4)), .agg (ptC false (.slice B1 m1 d1) (.slice B2 m2 d2) (.slice B3 m3 d3) (.slice B4 m4 d4)), .slice pA pn pc, .pointer (some ⟨w.heap.size, 0, none⟩), .pointer (some ⟨(w.heap.size + 1), 0, none⟩), undef, .pointer (some ⟨(w.heap.size + 1 + 1), 0, none⟩), .pointer (some ⟨g1, 0, none⟩), .pointer (some ⟨g2, 0, none⟩), undef, .pointer (some ⟨g3, 0, none⟩), .bool bi, .pointer (some ⟨g4, 0, none⟩), .pointer (some ⟨gX, 0, none⟩), .pointer (some ⟨w.heap.size, 0, none⟩), .bool false, undef, .pointer (some ⟨(w.heap.size + 1), 0, none⟩), .bool false, undef, .pointer (some ⟨(w.heap.size + 1), 3, none⟩), .agg #[.slice B3 m3 d3, .slice B4 m4 d4], .pointer (some ⟨w.heap.size, 3, none⟩), .agg #[.slice A3 n3 c3, .slice A4 n4 c4], .slice pA pn pc, .agg q1, .pointer (some ⟨(w.heap.size + 1), 1, none⟩), .agg #[.slice B1 m1 d1, .slice B2 m2 d2], .pointer (some ⟨w.heap.size, 1, none⟩), .agg #[.slice A1 n1 c1, .slice A2 n2 c2], .slice pA pn pc, .agg q2, .agg q2, .bool false, undef, undef, undef, undef, undef, undef] (List.append [undef, undef, undef, undef, undef, undef, undef, undef, undef, undef, undef, undef, undef, undef, undef, undef, undef, undef, undef, undef, undef, undef, .tuple #[.agg q3, .bool bi], .agg q2, .slice pA pn pc, .tuple #[.agg q3, .bool bi], .agg q3, .bool bi, .agg q1, .agg q3, .slice pA pn pc, .agg q4, .agg q4, .agg q4, .slice pA pn pc, .agg q5, .pointer (some ⟨w.heap.size, 1, none⟩), .agg #[.slice A1 n1 c1, .slice A2 n2 c2], .slice pA pn pc, .agg q6] ([.pointer (some ⟨(w.heap.size + 1), 1, none⟩), .agg #[.slice B1 m1 d1, .slice B2 m2 d2], .slice pA pn pc, .agg q7, undef, undef, undef, undef, undef, undef, undef, undef, undef, undef, undef, undef, undef, undef]))), defers := [] } ?_
     exact ⟨rfl, q5, q6, q7, gX, rfl, R74.out.setRow HX4.out (by decide), R44.out.setRow HX4.out (by decide), HE.out⟩
    ·have bz3 := (Below.refl x2.heap.size x2).alloc (Nat.le_refl _) (.cells #[.slice none 0 0, .slice none 0 0] 59)
     have AP := Lib.hid HG2.out.h.apart
     have hgeX := HG2.out.b.size
     have APo := Lib.hid (show x2.heap.size ≠ (w.heap.size + 1 + 1) from by have := (Array.getElem?_eq_some_iff.1 HG2.out.out).1; omega)
     have HX3 := Lib.hid (heap_alloc_new x2 (.cells #[.slice none 0 0, .slice none 0 0] 59))
     have HG3 := Lib.hid (HG2.out.on bz3)
     have HS3 := Lib.hid HG3.out.h
     have R43 := Lib.hid (R42.out.below bz3)
     have R53 := Lib.hid (R52.out.below bz3)
     have R63 := Lib.hid (R62.out.below bz3)
     refine sq_allock (some 13) 59 #[.slice none 0 0, .slice none 0 0] (zero_7 _) HS3.out ?_
     generalize x2.alloc _ = x3 at *
     generalize x2.heap.size = gX at *
     refine sq_done ?_
     refine m_seqk (f := 0) iAdd15 [(false, 11), (false, 13)] 16383 HS3.out ?_
     refine sq_ck (some 83) Tryz.func82 (lsub7_x R63.out (HXB.out.below HG3.out.b) (HP.out.below HG3.out.b) (subP_in (Nat.lt_trans Nat.zero_lt_one HI.out.2.2.2.2.2) _ _) HI.out.2.2.1 HI.out.2.2.2.2.1) ?_
     rintro e x4 ⟨y4, rfl, k4, bw4⟩
     obtain ⟨q7, rfl⟩ := k4.q
     have R74 := Lib.hid k4
     have R44 := Lib.hid (R43.out.below bw4)
     have R54 := Lib.hid (R53.out.below bw4)
     have R64 := Lib.hid (R63.out.below bw4)
     have HG4 := Lib.hid (HG3.out.on bw4)
     have HS4 := Lib.hid HG4.out.h
     have HX4 := Lib.hid (stays bw4 HX3.out)
     refine ⟨_, rfl, HS4.out, ?_⟩
     have HGX := Lib.hid (Begun.more HG4.out HX4.out APo.out)
     have HE := Lib.hid (HGX.out.putAt hgeX AP.out q7)
     have Z7 := Lib.hid R74.out.arr
     refine sq_st 59 gX q7 HX4.out (by rw [Z7.out.1]; exact Tryz.info7) (by rw [Z7.out.1]; rfl) Z7.out.2 (HS4.out.setRow AP.out) (by kernel_rfl) ?_
     refine sq_done ?_
     refine m_donek iAdd15 { tmps := List.toArray (List.append [.agg (ptC false (.slice A1 n1 c1) (.slice A2 n2 c2) (.slice A3 n3 c3) (.slice A4 n4 c4)), .agg (ptC false (.slice B1 m1 d1) (.slice B2 m2 d2) (.slice B3 m3 d3) (.slice B4 m4 d4)), .slice pA pn pc, .pointer (some ⟨w.heap.size, 0, none⟩), .pointer (some ⟨(w.heap.size + 1), 0, none⟩), undef, .pointer (some ⟨(w.heap.size + 1 + 1), 0, none⟩), .pointer (some ⟨g1, 0, none⟩), .pointer (some ⟨g2, 0, none⟩), undef, .pointer (some ⟨g3, 0, none⟩), .bool bi, .pointer (some ⟨g4, 0, none⟩), .pointer (some ⟨gX, 0, none⟩), .pointer (some ⟨w.heap.size, 0, none⟩), .bool false, undef, .pointer (some ⟨(w.heap.size + 1), 0, none⟩), .bool false, undef, .pointer (some ⟨(w.heap.size + 1), 3, none⟩), .agg #[.slice B3 m3 d3, .slice B4 m4 d4], .pointer (some ⟨w.heap.size, 3, none⟩), .agg #[.slice A3 n3 c3, .slice A4 n4 c4], .slice pA pn pc, .agg q1, .pointer (some ⟨(w.heap.size + 1), 1, none⟩), .agg #[.slice B1 m1 d1, .slice B2 m2 d2], .pointer (some ⟨w.heap.size, 1, none⟩), .agg #[.slice A1 n1 c1, .slice A2 n2 c2], .slice pA pn pc, .agg q2, .agg q2, .bool false, undef, undef, undef, undef, undef, undef] (List.append [undef, undef, undef, undef, undef, undef, undef, undef, undef, undef, undef, undef, undef, undef, undef, undef, undef, undef, undef, undef, undef, undef, .tuple #[.agg q3, .bool bi], .agg q2, .slice pA pn pc, .tuple #[.agg q3, .bool bi], .agg q3, .bool bi, .agg q1, .agg q3, .slice pA pn pc, .agg q4, .agg q4, .agg q4, .slice pA pn pc, .agg q5, .pointer (some ⟨w.heap.size, 1, none⟩), .agg #[.slice A1 n1 c1, .slice A2 n2 c2], .slice pA pn pc, .agg q6] ([.pointer (some ⟨(w.heap.size + 1), 1, none⟩), .agg #[.slice B1 m1 d1, .slice B2 m2 d2], .slice pA pn pc, .agg q7, undef, undef, undef, undef, undef, undef, undef, undef, undef, undef, undef, undef, undef, undef]))), defers := [] } ?_
     exact ⟨rfl, q5, q6, q7, gX, rfl, R74.out.setRow HX4.out (by decide), R44.out.setRow HX4.out (by decide), HE.out⟩
   ·have bz2 := (Below.refl x1.heap.size x1).alloc (Nat.le_refl _) (.cells #[.slice none 0 0, .slice none 0 0] 59)
    have AP := Lib.hid HG1.out.h.apart
    have hgeX := HG1.out.b.size
    have APo := Lib.hid (show x1.heap.size ≠ (w.heap.size + 1 + 1) from by have := (Array.getElem?_eq_some_iff.1 HG1.out.out).1; omega)
    have HX2 := Lib.hid (heap_alloc_new x1 (.cells #[.slice none 0 0, .slice none 0 0] 59))
    have HG2 := Lib.hid (HG1.out.on bz2)
    have HS2 := Lib.hid HG2.out.h
    have R42 := Lib.hid (R41.out.below bz2)
    have R52 := Lib.hid (R51.out.below bz2)
    refine sq_allock (some 13) 59 #[.slice none 0 0, .slice none 0 0] (zero_7 _) HS2.out ?_
    generalize x1.alloc _ = x2 at *
    generalize x1.heap.size = gX at *
    refine sq_done ?_
    refine m_seqk (f := 0) iAdd15 [(false, 7), (false, 11), (false, 13)] 16383 HS2.out ?_
    refine sq_ck (some 79) Tryz.func82 (lsub7_x R52.out (HXA.out.below HG2.out.b) (HP.out.below HG2.out.b) (mulP_in (Nat.lt_trans Nat.zero_lt_one HI.out.2.2.2.2.2) _ _) HI.out.1 HI.out.2.2.2.2.1) ?_
    rintro e x3 ⟨y3, rfl, k3, bw3⟩
    obtain ⟨q6, rfl⟩ := k3.q
    have R63 := Lib.hid k3
    have R43 := Lib.hid (R42.out.below bw3)
    have R53 := Lib.hid (R52.out.below bw3)
    have HG3 := Lib.hid (HG2.out.on bw3)
    have HS3 := Lib.hid HG3.out.h
    have HX3 := Lib.hid (stays bw3 HX2.out)
    refine ⟨_, rfl, HS3.out, ?_⟩
    refine sq_ck (some 83) Tryz.func82 (lsub7_x R63.out (HXB.out.below HG3.out.b) (HP.out.below HG3.out.b) (subP_in (Nat.lt_trans Nat.zero_lt_one HI.out.2.2.2.2.2) _ _) HI.out.2.2.1 HI.out.2.2.2.2.1) ?_
    rintro e x4 ⟨y4, rfl, k4, bw4⟩
    obtain ⟨q7, rfl⟩ := k4.q
    have R74 := Lib.hid k4
    have R44 := Lib.hid (R43.out.below bw4)
    have R54 := Lib.hid (R53.out.below bw4)
    have R64 := Lib.hid (R63.out.below bw4)
    have HG4 := Lib.hid (HG3.out.on bw4)
    have HS4 := Lib.hid HG4.out.h
    have HX4 := Lib.hid (stays bw4 HX3.out)
    refine ⟨_, rfl, HS4.out, ?_⟩
    have HGX := Lib.hid (Begun.more HG4.out HX4.out APo.out)
    have HE := Lib.hid (HGX.out.putAt hgeX AP.out q7)
    have Z7 := Lib.hid R74.out.arr
    refine sq_st 59 gX q7 HX4.out (by rw [Z7.out.1]; exact Tryz.info7) (by rw [Z7.out.1]; rfl) Z7.out.2 (HS4.out.setRow AP.out) (by kernel_rfl) ?_
    refine sq_done ?_
    refine m_donek iAdd15 { tmps := List.toArray (List.append [.agg (ptC false (.slice A1 n1 c1) (.slice A2 n2 c2) (.slice A3 n3 c3) (.slice A4 n4 c4)), .agg (ptC false (.slice B1 m1 d1) (.slice B2 m2 d2) (.slice B3 m3 d3) (.slice B4 m4 d4)), .slice pA pn pc, .pointer (some ⟨w.heap.size, 0, none⟩), .pointer (some ⟨(w.heap.size + 1), 0, none⟩), undef, .pointer (some ⟨(w.heap.size + 1 + 1), 0, none⟩), .pointer (some ⟨g1, 0, none⟩), .pointer (some ⟨g2, 0, none⟩), undef, .pointer (some ⟨g3, 0, none⟩), .bool bi, .pointer (some ⟨g4, 0, none⟩), .pointer (some ⟨gX, 0, none⟩), .pointer (some ⟨w.heap.size, 0, none⟩), .bool false, undef, .pointer (some ⟨(w.heap.size + 1), 0, none⟩), .bool false, undef, .pointer (some ⟨(w.heap.size + 1), 3, none⟩), .agg #[.slice B3 m3 d3, .slice B4 m4 d4], .pointer (some ⟨w.heap.size, 3, none⟩), .agg #[.slice A3 n3 c3, .slice A4 n4 c4], .slice pA pn pc, .agg q1, .pointer (some ⟨(w.heap.size + 1), 1, none⟩), .agg #[.slice B1 m1 d1, .slice B2 m2 d2], .pointer (some ⟨w.heap.size, 1, none⟩), .agg #[.slice A1 n1 c1, .slice A2 n2 c2], .slice pA pn pc, .agg q2, .agg q2, .bool false, undef, undef, undef, undef, undef, undef] (List.append [undef, undef, undef, undef, undef, undef, undef, undef, undef, undef, undef, undef, undef, undef, undef, undef, undef, undef, undef, undef, undef, undef, .tuple #[.agg q3, .bool bi], .agg q2, .slice pA pn pc, .tuple #[.agg q3, .bool bi], .agg q3, .bool bi, .agg q1, .agg q3, .slice pA pn pc, .agg q4, .agg q4, .agg q4, .slice pA pn pc, .agg q5, .pointer (some ⟨w.heap.size, 1, none⟩), .agg #[.slice A1 n1 c1, .slice A2 n2 c2], .slice pA pn pc, .agg q6] ([.pointer (some ⟨(w.heap.size + 1), 1, none⟩), .agg #[.slice B1 m1 d1, .slice B2 m2 d2], .slice pA pn pc, .agg q7, undef, undef, undef, undef, undef, undef, undef, undef, undef, undef, undef, undef, undef, undef]))), defers := [] } ?_
    exact ⟨rfl, q5, q6, q7, gX, rfl, R74.out.setRow HX4.out (by decide), R44.out.setRow HX4.out (by decide), HE.out⟩
  ·have bz1 := (Below.refl w0.heap.size w0).alloc (Nat.le_refl _) (.cells #[.slice none 0 0, .slice none 0 0] 59)
   have AP := Lib.hid HG0.out.h.apart
   have hgeX := HG0.out.b.size
   have APo := Lib.hid (show w0.heap.size ≠ (w.heap.size + 1 + 1) from by have := (Array.getElem?_eq_some_iff.1 HG0.out.out).1; omega)
   have HX1 := Lib.hid (heap_alloc_new w0 (.cells #[.slice none 0 0, .slice none 0 0] 59))
   have HG1 := Lib.hid (HG0.out.on bz1)
   have HS1 := Lib.hid HG1.out.h
   have R41 := Lib.hid (R40.out.below bz1)
   refine sq_allock (some 13) 59 #[.slice none 0 0, .slice none 0 0] (zero_7 _) HS1.out ?_
   generalize w0.alloc _ = x1 at *
   generalize w0.heap.size = gX at *
   refine sq_done ?_
   refine m_seqk (f := 0) iAdd15 [(false, 3), (false, 7), (false, 11), (false, 13)] 16383 HS1.out ?_
   refine sq_ck (some 75) Tryz.func63 (lmul7_x R41.out R41.out (HP.out.below HG1.out.b) iM.out iM.out HI.out.2.2.2.2.1) ?_
   rintro e x2 ⟨y2, rfl, k2, bw2⟩
   obtain ⟨q5, rfl⟩ := k2.q
   have R52 := Lib.hid k2
   have R42 := Lib.hid (R41.out.below bw2)
   have HG2 := Lib.hid (HG1.out.on bw2)
   have HS2 := Lib.hid HG2.out.h
   have HX2 := Lib.hid (stays bw2 HX1.out)
   refine ⟨_, rfl, HS2.out, ?_⟩
   refine sq_ck (some 79) Tryz.func82 (lsub7_x R52.out (HXA.out.below HG2.out.b) (HP.out.below HG2.out.b) (mulP_in (Nat.lt_trans Nat.zero_lt_one HI.out.2.2.2.2.2) _ _) HI.out.1 HI.out.2.2.2.2.1) ?_
   rintro e x3 ⟨y3, rfl, k3, bw3⟩
   obtain ⟨q6, rfl⟩ := k3.q
   have R63 := Lib.hid k3
   have R43 := Lib.hid (R42.out.below bw3)
   have R53 := Lib.hid (R52.out.below bw3)
   have HG3 := Lib.hid (HG2.out.on bw3)
   have HS3 := Lib.hid HG3.out.h
   have HX3 := Lib.hid (stays bw3 HX2.out)
   refine ⟨_, rfl, HS3.out, ?_⟩
   refine sq_ck (some 83) Tryz.func82 (lsub7_x R63.out (HXB.out.below HG3.out.b) (HP.out.below HG3.out.b) (subP_in (Nat.lt_trans Nat.zero_lt_one HI.out.2.2.2.2.2) _ _) HI.out.2.2.1 HI.out.2.2.2.2.1) ?_
   rintro e x4 ⟨y4, rfl, k4, bw4⟩
   obtain ⟨q7, rfl⟩ := k4.q
   have R74 := Lib.hid k4
   have R44 := Lib.hid (R43.out.below bw4)
   have R54 := Lib.hid (R53.out.below bw4)
   have R64 := Lib.hid (R63.out.below bw4)
   have HG4 := Lib.hid (HG3.out.on bw4)
   have HS4 := Lib.hid HG4.out.h
   have HX4 := Lib.hid (stays bw4 HX3.out)
   refine ⟨_, rfl, HS4.out, ?_⟩
   have HGX := Lib.hid (Begun.more HG4.out HX4.out APo.out)
   have HE := Lib.hid (HGX.out.putAt hgeX AP.out q7)
   have Z7 := Lib.hid R74.out.arr
   refine sq_st 59 gX q7 HX4.out (by rw [Z7.out.1]; exact Tryz.info7) (by rw [Z7.out.1]; rfl) Z7.out.2 (HS4.out.setRow AP.out) (by kernel_rfl) ?_
   refine sq_done ?_
   refine m_donek iAdd15 { tmps := List.toArray (List.append [.agg (ptC false (.slice A1 n1 c1) (.slice A2 n2 c2) (.slice A3 n3 c3) (.slice A4 n4 c4)), .agg (ptC false (.slice B1 m1 d1) (.slice B2 m2 d2) (.slice B3 m3 d3) (.slice B4 m4 d4)), .slice pA pn pc, .pointer (some ⟨w.heap.size, 0, none⟩), .pointer (some ⟨(w.heap.size + 1), 0, none⟩), undef, .pointer (some ⟨(w.heap.size + 1 + 1), 0, none⟩), .pointer (some ⟨g1, 0, none⟩), .pointer (some ⟨g2, 0, none⟩), undef, .pointer (some ⟨g3, 0, none⟩), .bool bi, .pointer (some ⟨g4, 0, none⟩), .pointer (some ⟨gX, 0, none⟩), .pointer (some ⟨w.heap.size, 0, none⟩), .bool false, undef, .pointer (some ⟨(w.heap.size + 1), 0, none⟩), .bool false, undef, .pointer (some ⟨(w.heap.size + 1), 3, none⟩), .agg #[.slice B3 m3 d3, .slice B4 m4 d4], .pointer (some ⟨w.heap.size, 3, none⟩), .agg #[.slice A3 n3 c3, .slice A4 n4 c4], .slice pA pn pc, .agg q1, .pointer (some ⟨(w.heap.size + 1), 1, none⟩), .agg #[.slice B1 m1 d1, .slice B2 m2 d2], .pointer (some ⟨w.heap.size, 1, none⟩), .agg #[.slice A1 n1 c1, .slice A2 n2 c2], .slice pA pn pc, .agg q2, .agg q2, .bool false, undef, undef, undef, undef, undef, undef] (List.append [undef, undef, undef, undef, undef, undef, undef, undef, undef, undef, undef, undef, undef, undef, undef, undef, undef, undef, undef, undef, undef, undef, .tuple #[.agg q3, .bool bi], .agg q2, .slice pA pn pc, .tuple #[.agg q3, .bool bi], .agg q3, .bool bi, .agg q1, .agg q3, .slice pA pn pc, .agg q4, .agg q4, .agg q4, .slice pA pn pc, .agg q5, .pointer (some ⟨w.heap.size, 1, none⟩), .agg #[.slice A1 n1 c1, .slice A2 n2 c2], .slice pA pn pc, .agg q6] ([.pointer (some ⟨(w.heap.size + 1), 1, none⟩), .agg #[.slice B1 m1 d1, .slice B2 m2 d2], .slice pA pn pc, .agg q7, undef, undef, undef, undef, undef, undef, undef, undef, undef, undef, undef, undef, undef, undef]))), defers := [] } ?_
   exact ⟨rfl, q5, q6, q7, gX, rfl, R74.out.setRow HX4.out (by decide), R44.out.setRow HX4.out (by decide), HE.out⟩
 rintro e a wx ⟨rfl, q5, q6, q7, gX, rfl, k7, k4, hG⟩
 have R7 := Lib.hid (k7.below (bd7 _))
 have R4 := Lib.hid (k4.below (bd7 _))
 have HG0 := Lib.hid hG.drew
 have HS0 := Lib.hid HG0.out.h
 clear hG k7 k4
 refine ‹∀ a w, Code.wp _ _ _ a w → _› _ _ ?_
 go_step
 have Zq7 := Lib.hid R7.out.arr
 have F7 := Lib.hid (show ∀ w', Held w' ((gX, q7, 59) :: [(g4, q4, 59), (g3, q3, 59), (g2, q2, 59), (g1, q1, 59), ((w.heap.size + 1), ptC false (.slice B1 m1 d1) (.slice B2 m2 d2) (.slice B3 m3 d3) (.slice B4 m4 d4), 61), (w.heap.size, ptC false (.slice A1 n1 c1) (.slice A2 n2 c2) (.slice A3 n3 c3) (.slice A4 n4 c4), 61)]) → (Instr.loadAt 59 (.pointer (some ⟨gX, 0, none⟩))).run Tryz.prog w' = .ok (.agg q7) w' from fun w' hw => cells_load (show _ = some (Obj.cells (q7) 59 (0, 0)) from hw (gX, q7, 59) (.head _)) Tryz.underlying59 rfl (by rw [Zq7.out.1]; exact Tryz.info7))
 have F4 := Lib.hid (show ∀ w', Held w' ((gX, q7, 59) :: [(g4, q4, 59), (g3, q3, 59), (g2, q2, 59), (g1, q1, 59), ((w.heap.size + 1), ptC false (.slice B1 m1 d1) (.slice B2 m2 d2) (.slice B3 m3 d3) (.slice B4 m4 d4), 61), (w.heap.size, ptC false (.slice A1 n1 c1) (.slice A2 n2 c2) (.slice A3 n3 c3) (.slice A4 n4 c4), 61)]) → (Instr.loadAt 59 (.pointer (some ⟨g4, 0, none⟩))).run Tryz.prog w' = .ok (.agg q4) w' from fun w' hw => cells_load (show _ = some (Obj.cells (q4) 59 (0, 0)) from hw (g4, q4, 59) (.tail _ (.head _))) Tryz.underlying59 rfl (by rw [Zq4.out.1]; exact Tryz.info7))
 have FXA := Lib.hid (show ∀ w', Held w' ((gX, q7, 59) :: [(g4, q4, 59), (g3, q3, 59), (g2, q2, 59), (g1, q1, 59), ((w.heap.size + 1), ptC false (.slice B1 m1 d1) (.slice B2 m2 d2) (.slice B3 m3 d3) (.slice B4 m4 d4), 61), (w.heap.size, ptC false (.slice A1 n1 c1) (.slice A2 n2 c2) (.slice A3 n3 c3) (.slice A4 n4 c4), 61)]) → (Instr.loadAt 59 (.pointer (some ⟨w.heap.size, 1, none⟩))).run Tryz.prog w' = .ok (.agg #[.slice A1 n1 c1, .slice A2 n2 c2]) w' from fun w' hw => (pt_at (show _ = some (Obj.cells (ptC false (.slice A1 n1 c1) (.slice A2 n2 c2) (.slice A3 n3 c3) (.slice A4 n4 c4)) 61 (0, 0)) from hw (w.heap.size, ptC false (.slice A1 n1 c1) (.slice A2 n2 c2) (.slice A3 n3 c3) (.slice A4 n4 c4), 61) (.tail _ (.tail _ (.tail _ (.tail _ (.tail _ (.tail _ (.head _))))))))).x)
 have FYA := Lib.hid (show ∀ w', Held w' ((gX, q7, 59) :: [(g4, q4, 59), (g3, q3, 59), (g2, q2, 59), (g1, q1, 59), ((w.heap.size + 1), ptC false (.slice B1 m1 d1) (.slice B2 m2 d2) (.slice B3 m3 d3) (.slice B4 m4 d4), 61), (w.heap.size, ptC false (.slice A1 n1 c1) (.slice A2 n2 c2) (.slice A3 n3 c3) (.slice A4 n4 c4), 61)]) → (Instr.loadAt 59 (.pointer (some ⟨w.heap.size, 3, none⟩))).run Tryz.prog w' = .ok (.agg #[.slice A3 n3 c3, .slice A4 n4 c4]) w' from fun w' hw => (pt_at (show _ = some (Obj.cells (ptC false (.slice A1 n1 c1) (.slice A2 n2 c2) (.slice A3 n3 c3) (.slice A4 n4 c4)) 61 (0, 0)) from hw (w.heap.size, ptC false (.slice A1 n1 c1) (.slice A2 n2 c2) (.slice A3 n3 c3) (.slice A4 n4 c4), 61) (.tail _ (.tail _ (.tail _ (.tail _ (.tail _ (.tail _ (.head _))))))))).y)
 refine sq_gok (S := fun w' => Held w' ((gX, q7, 59) :: [(g4, q4, 59), (g3, q3, 59), (g2, q2, 59), (g1, q1, 59), ((w.heap.size + 1), ptC false (.slice B1 m1 d1) (.slice B2 m2 d2) (.slice B3 m3 d3) (.slice B4 m4 d4), 61), (w.heap.size, ptC false (.slice A1 n1 c1) (.slice A2 n2 c2) (.slice A3 n3 c3) (.slice A4 n4 c4), 61)])) [(true, 0), (true, 1), (true, 2), (true, 3), (true, 4), (true, 5), (true, 7), (true, 9), (true, 10), (true, 11), (false, 6), (false, 8), (false, 12), (true, 13), (false, 14)] HS0.out ?_
 refine sq_ldk (some 84) F7.out ?_
 refine sq_ldk (some 85) F4.out ?_
 refine sq_psk [(2, .pointer (some ⟨w.heap.size, 1, none⟩))] ?_
 refine sq_ldk (some 87) FXA.out ?_
 refine sq_ldk (some 88) F7.out ?_
 refine sq_psk [(5, .slice pA pn pc), (7, .slice pA pn pc), (9, .pointer (some ⟨w.heap.size, 3, none⟩))] ?_
 refine sq_ldk (some 94) FYA.out ?_
 refine sq_psk [(11, .slice pA pn pc)] ?_
 refine sq_ck (some 90) Tryz.func82 (lsub7_x (HXA.out.below HG0.out.b) R7.out (HP.out.below HG0.out.b) HI.out.1 (subP_in (Nat.lt_trans Nat.zero_lt_one HI.out.2.2.2.2.2) _ _) HI.out.2.2.2.2.1) ?_
 rintro e v1 ⟨y1, rfl, k8, bw1⟩
 obtain ⟨q8, rfl⟩ := k8.q
 have R8 := Lib.hid k8
 have R4 := Lib.hid (R4.out.below bw1)
 have R7 := Lib.hid (R7.out.below bw1)
 have HG1 := Lib.hid (HG0.out.on bw1)
 have HS1 := Lib.hid HG1.out.h
 refine ⟨_, rfl, HS1.out, ?_⟩
 refine sq_ck (some 92) Tryz.func63 (lmul7_x R4.out R8.out (HP.out.below HG1.out.b) iM.out (subP_in (Nat.lt_trans Nat.zero_lt_one HI.out.2.2.2.2.2) _ _) HI.out.2.2.2.2.1) ?_
 rintro e v2 ⟨y2, rfl, k9, bw2⟩
 obtain ⟨q9, rfl⟩ := k9.q
 have R9 := Lib.hid k9
 have R7 := Lib.hid (R7.out.below bw2)
 have HG2 := Lib.hid (HG1.out.on bw2)
 have HS2 := Lib.hid HG2.out.h
 refine ⟨_, rfl, HS2.out, ?_⟩
 refine sq_ck (some 96) Tryz.func82 (lsub7_x R9.out (HYA.out.below HG2.out.b) (HP.out.below HG2.out.b) (mulP_in (Nat.lt_trans Nat.zero_lt_one HI.out.2.2.2.2.2) _ _) HI.out.2.1 HI.out.2.2.2.2.1) ?_
 rintro e v3 ⟨y3, rfl, k10, bw3⟩
 have R7 := Lib.hid (R7.out.below bw3)
 have R10 := Lib.hid k10
 obtain ⟨ya, yb, rfl, t1, t2⟩ := k10
 obtain ⟨xa, xb, eX, t3, t4⟩ := R7.out
 obtain ⟨A5, n5, c5, rfl⟩ := t1.shape
 obtain ⟨A6, n6, c6, rfl⟩ := t2.shape
 obtain ⟨A7, n7, c7, rfl⟩ := t3.shape
 obtain ⟨A8, n8, c8, rfl⟩ := t4.shape
 injection eX with eX
 subst eX
 have HG3 := Lib.hid (HG2.out.on bw3)
 have HS3 := Lib.hid HG3.out.h
 refine ⟨_, rfl, HS3.out, ?_⟩
 refine sq_pure (some 97) (.agg (ptC false (.slice A7 n7 c7) (.slice A8 n8 c8) (.slice A5 n5 c5) (.slice A6 n6 c6))) (by kernel_rfl) (by kernel_rfl) (held_build 61 #[(1, (.tmp 84)), (2, (.tmp 96))] (by kernel_rfl) _ (by kernel_rfl) _ (built_10xy _ _ _ _)) ?_
 have HE := Lib.hid (HG3.out.put (show w.heap.size ≤ (w.heap.size + 1 + 1) by omega) (ptC false (.slice A7 n7 c7) (.slice A8 n8 c8) (.slice A5 n5 c5) (.slice A6 n6 c6)))
 refine sq_stk 61 (w.heap.size + 1 + 1) (ptC false (.slice A7 n7 c7) (.slice A8 n8 c8) (.slice A5 n5 c5) (.slice A6 n6 c6)) HG3.out.out Tryz.infoPt10 rfl (HS3.out.setRow HG3.out.ne) ?_
 refine sq_done ?_
 refine ‹∀ a w, Code.wp _ Code.ret _ a w → _› _ _ ?_
 refine wp_ret ?_
 exact bodyPost_ret (results_cell_row Tryz.results47 _ _ ((w.heap.size + 1 + 1)) _ _ _ _ (by kernel_rfl) HE.out.out Tryz.underlying61 rfl Tryz.infoPt10) (by kernel_rfl) ⟨_, rfl, by have eM := HM.out; subst eM; rw [← HR.out]; exact PtX.of (R7.out.setRow7 HG3.out.out) (R10.out.setRow7 HG3.out.out), HE.out.b⟩
theorem ladd10_tangent {w : World} {vp : Value} {A B : Pn × Pn} {A1 A2 A3 A4 B1 B2 B3 B4 : Option Addr} {n1 c1 n2 c2 n3 c3 n4 c4 m1 d1 m2 d2 m3 d3 m4 d4 : Nat} {n : Nat} (hA : PtX w (.agg (ptC false (.slice A1 n1 c1) (.slice A2 n2 c2) (.slice A3 n3 c3) (.slice A4 n4 c4))) (some A)) (hB : PtX w (.agg (ptC false (.slice B1 m1 d1) (.slice B2 m2 d2) (.slice B3 m3 d3) (.slice B4 m4 d4))) (some B)) (hp : RowX w vp n) (iA : InP2 n A.1 ∧ InP2 n A.2) (iB : InP2 n B.1 ∧ InP2 n B.2) (hn : n < GB) (h1 : 1 < n) (h : subP n B.1 A.1 = (0, 0)) (hy : A.2 ≠ (0, 0)) (ha : subP n B.2 A.2 = (0, 0)) :
  Calls Tryz.prog 47 #[.agg (ptC false (.slice A1 n1 c1) (.slice A2 n2 c2) (.slice A3 n3 c3) (.slice A4 n4 c4)), .agg (ptC false (.slice B1 m1 d1) (.slice B2 m2 d2) (.slice B3 m3 d3) (.slice B4 m4 d4)), vp] w (PtTo (some (lineP n A B (tripleP n A.1) (addP n A.2 A.2))) w) := by
 have HP := Lib.hid hp
 obtain ⟨pA, pn, pc, rfl⟩ := hp.shape
 obtain ⟨xA, yA⟩ := A
 obtain ⟨xB, yB⟩ := B
 have HXA := Lib.hid (PtX.pairs hA).2.1
 have HYA := Lib.hid (PtX.pairs hA).2.2
 have HXB := Lib.hid (PtX.pairs hB).2.1
 have HYB := Lib.hid (PtX.pairs hB).2.2
 have HI := Lib.hid (And.intro iA.1 (And.intro iA.2 (And.intro iB.1 (And.intro iB.2 (And.intro hn h1)))))
 have HZ := Lib.hid (decide_eq_true h)
 have HY0 := Lib.hid (decide_eq_false hy)
 have HAb := Lib.hid (decide_eq_true ha)
 obtain ⟨RR, hRR⟩ : ∃ R, lineP n (xA, yA) (xB, yB) (tripleP n xA) (addP n yA yA) = R := ⟨_, rfl⟩
 have HR := Lib.hid hRR
 rw [hRR]
 unfold PtTo
 simp only at HXA HYA HXB HYB HI HZ HY0 HAb
 clear hRR hy ha
 have HG0 := Lib.hid (begun3 (Held.none w) (ptC false (.slice A1 n1 c1) (.slice A2 n2 c2) (.slice A3 n3 c3) (.slice A4 n4 c4)) (ptC false (.slice B1 m1 d1) (.slice B2 m2 d2) (.slice B3 m3 d3) (.slice B4 m4 d4)) #[.bool false, .slice none 0 0, .slice none 0 0, .slice none 0 0, .slice none 0 0] 61 61 61)
 clear hp h iA iB hn h1 hA hB
 go_enter Tryz.func47, Tryz.ntmps47
 go_upto_region 1 with (fail)
 generalize ((w.alloc _).alloc _).alloc _ = w0 at *
 have HHB := Lib.hid (show _ = some (Obj.cells (ptC false (.slice B1 m1 d1) (.slice B2 m2 d2) (.slice B3 m3 d3) (.slice B4 m4 d4)) 61 (0, 0)) from HG0.out.h ((w.heap.size + 1), ptC false (.slice B1 m1 d1) (.slice B2 m2 d2) (.slice B3 m3 d3) (.slice B4 m4 d4), 61) (.head _))
 have HHA := Lib.hid (show _ = some (Obj.cells (ptC false (.slice A1 n1 c1) (.slice A2 n2 c2) (.slice A3 n3 c3) (.slice A4 n4 c4)) 61 (0, 0)) from HG0.out.h (w.heap.size, ptC false (.slice A1 n1 c1) (.slice A2 n2 c2) (.slice A3 n3 c3) (.slice A4 n4 c4), 61) (.tail _ (.head _)))
 have za := pt_z HHA.out
 have zb := pt_z HHB.out
 go_wp2_with (first | refine load_mid rfl (.tmp 20) rfl (w.heap.size + 1) 3 _ (.slice B3 m3 d3) (.slice B4 m4 d4) rfl HHB.out rfl rfl ?_ | refine load_mid rfl (.tmp 22) rfl w.heap.size 3 _ (.slice A3 n3 c3) (.slice A4 n4 c4) rfl HHA.out rfl rfl ?_)
 clear za zb
 refine (lsub7_x (HYB.out.below HG0.out.b) (HYA.out.below HG0.out.b) (HP.out.below HG0.out.b) HI.out.2.2.2.1 HI.out.2.1 HI.out.2.2.2.2.1).mono ?_
 rintro e w1 ⟨v1, rfl, k1, b1⟩
 obtain ⟨q1, rfl⟩ := k1.q
 have Zq1 := Lib.hid k1.arr
 have HG1 := Lib.hid (HG0.out.on b1)
 have HN1 := Lib.hid (heap_alloc_new w1 (.cells #[.slice none 0 0, .slice none 0 0] 59))
 have APq1 := Lib.hid HG1.out.h.apart
 have GEq1 := Lib.hid HG1.out.b.size
 have bu1 := below_setRow2 ((Below.refl w1.heap.size w1).alloc (Nat.le_refl _) (.cells #[.slice none 0 0, .slice none 0 0] 59)) (Nat.le_refl _) q1
 have HG2 := Lib.hid ((HG1.out.new #[.slice none 0 0, .slice none 0 0] 59).putAt HG1.out.b.size HG1.out.h.apart q1)
 have Rq1 := Lib.hid (k1.below bu1)
 clear k1 b1 bu1 HG0 HG1
 have HHnew := Lib.hid (show _ = some (Obj.cells (q1) 59 (0, 0)) from HG2.out.h (w1.heap.size, q1, 59) (.head _))
 have HHB := Lib.hid (show _ = some (Obj.cells (ptC false (.slice B1 m1 d1) (.slice B2 m2 d2) (.slice B3 m3 d3) (.slice B4 m4 d4)) 61 (0, 0)) from HG2.out.h ((w.heap.size + 1), ptC false (.slice B1 m1 d1) (.slice B2 m2 d2) (.slice B3 m3 d3) (.slice B4 m4 d4), 61) (.tail _ (.head _)))
 have HHA := Lib.hid (show _ = some (Obj.cells (ptC false (.slice A1 n1 c1) (.slice A2 n2 c2) (.slice A3 n3 c3) (.slice A4 n4 c4)) 61 (0, 0)) from HG2.out.h (w.heap.size, ptC false (.slice A1 n1 c1) (.slice A2 n2 c2) (.slice A3 n3 c3) (.slice A4 n4 c4), 61) (.tail _ (.tail _ (.head _))))
 go_wp2_with (first | refine store_v rfl 59 (.tmp 7) (.tmp 25) rfl w1.heap.size _ q1 rfl rfl HN1.out (by rw [Zq1.out.1]; exact Tryz.info7) (by rw [Zq1.out.1]; rfl) Zq1.out.2 ?_ | refine load_mid rfl (.tmp 26) rfl (w.heap.size + 1) 1 _ (.slice B1 m1 d1) (.slice B2 m2 d2) rfl HHB.out rfl rfl ?_ | refine load_mid rfl (.tmp 28) rfl w.heap.size 1 _ (.slice A1 n1 c1) (.slice A2 n2 c2) rfl HHA.out rfl rfl ?_)
 clear HN1
 generalize (w1.alloc _).setRow _ _ = u1 at *
 generalize w1.heap.size = g1 at *
 refine (lsub7_x (HXB.out.below HG2.out.b) (HXA.out.below HG2.out.b) (HP.out.below HG2.out.b) HI.out.2.2.1 HI.out.1 HI.out.2.2.2.2.1).mono ?_
 rintro e w2 ⟨v2, rfl, k2, b2⟩
 obtain ⟨q2, rfl⟩ := k2.q
 have Zq2 := Lib.hid k2.arr
 have HG3 := Lib.hid (HG2.out.on b2)
 have HN2 := Lib.hid (heap_alloc_new w2 (.cells #[.slice none 0 0, .slice none 0 0] 59))
 have APq2 := Lib.hid HG3.out.h.apart
 have GEq2 := Lib.hid HG3.out.b.size
 have bu2 := below_setRow2 ((Below.refl w2.heap.size w2).alloc (Nat.le_refl _) (.cells #[.slice none 0 0, .slice none 0 0] 59)) (Nat.le_refl _) q2
 have HG4 := Lib.hid ((HG3.out.new #[.slice none 0 0, .slice none 0 0] 59).putAt HG3.out.b.size HG3.out.h.apart q2)
 have Rq1 := Lib.hid ((Rq1.out.below b2).below bu2)
 have Rq2 := Lib.hid (k2.below bu2)
 clear k2 b2 bu2 HG2 HG3
 have HHnew := Lib.hid (show _ = some (Obj.cells (q2) 59 (0, 0)) from HG4.out.h (w2.heap.size, q2, 59) (.head _))
 have HHg1 := Lib.hid (show _ = some (Obj.cells (q1) 59 (0, 0)) from HG4.out.h (g1, q1, 59) (.tail _ (.head _)))
 have HHB := Lib.hid (show _ = some (Obj.cells (ptC false (.slice B1 m1 d1) (.slice B2 m2 d2) (.slice B3 m3 d3) (.slice B4 m4 d4)) 61 (0, 0)) from HG4.out.h ((w.heap.size + 1), ptC false (.slice B1 m1 d1) (.slice B2 m2 d2) (.slice B3 m3 d3) (.slice B4 m4 d4), 61) (.tail _ (.tail _ (.head _))))
 have HHA := Lib.hid (show _ = some (Obj.cells (ptC false (.slice A1 n1 c1) (.slice A2 n2 c2) (.slice A3 n3 c3) (.slice A4 n4 c4)) 61 (0, 0)) from HG4.out.h (w.heap.size, ptC false (.slice A1 n1 c1) (.slice A2 n2 c2) (.slice A3 n3 c3) (.slice A4 n4 c4), 61) (.tail _ (.tail _ (.tail _ (.head _)))))
 go_wp2_with (first | refine store_v rfl 59 (.tmp 8) (.tmp 31) rfl w2.heap.size _ q2 rfl rfl HN2.out (by rw [Zq2.out.1]; exact Tryz.info7) (by rw [Zq2.out.1]; rfl) Zq2.out.2 ?_ | refine load_v rfl 59 (.tmp 8) rfl w2.heap.size q2 rfl HHnew.out Tryz.underlying59 rfl (by rw [Zq2.out.1]; exact Tryz.info7) ?_)
 clear HN2
 generalize (w2.alloc _).setRow _ _ = u2 at *
 generalize w2.heap.size = g2 at *
 refine (lzero7_x Rq2.out).mono ?_
 rintro e w3 ⟨he, b3⟩
 rw [HZ.out] at he
 subst he
 have HG5 := Lib.hid (HG4.out.on b3)
 have Rq1 := Lib.hid (Rq1.out.below b3)
 have Rq2 := Lib.hid (Rq2.out.below b3)
 clear b3 HG4
 go_upto_region 8 with (fail)
 have FYA := Lib.hid (show ∀ w', Held w' [(g2, q2, 59), (g1, q1, 59), ((w.heap.size + 1), ptC false (.slice B1 m1 d1) (.slice B2 m2 d2) (.slice B3 m3 d3) (.slice B4 m4 d4), 61), (w.heap.size, ptC false (.slice A1 n1 c1) (.slice A2 n2 c2) (.slice A3 n3 c3) (.slice A4 n4 c4), 61)] → (Instr.loadAt 59 (.pointer (some ⟨w.heap.size, 3, none⟩))).run Tryz.prog w' = .ok (.agg #[.slice A3 n3 c3, .slice A4 n4 c4]) w' from fun w' hw => (pt_at (show _ = some (Obj.cells (ptC false (.slice A1 n1 c1) (.slice A2 n2 c2) (.slice A3 n3 c3) (.slice A4 n4 c4)) 61 (0, 0)) from hw (w.heap.size, ptC false (.slice A1 n1 c1) (.slice A2 n2 c2) (.slice A3 n3 c3) (.slice A4 n4 c4), 61) (.tail _ (.tail _ (.tail _ (.head _)))))).y)
 have F1 := Lib.hid (show ∀ w', Held w' [(g2, q2, 59), (g1, q1, 59), ((w.heap.size + 1), ptC false (.slice B1 m1 d1) (.slice B2 m2 d2) (.slice B3 m3 d3) (.slice B4 m4 d4), 61), (w.heap.size, ptC false (.slice A1 n1 c1) (.slice A2 n2 c2) (.slice A3 n3 c3) (.slice A4 n4 c4), 61)] → (Instr.loadAt 59 (.pointer (some ⟨g1, 0, none⟩))).run Tryz.prog w' = .ok (.agg q1) w' from fun w' hw => cells_load (show _ = some (Obj.cells (q1) 59 (0, 0)) from hw (g1, q1, 59) (.tail _ (.head _))) Tryz.underlying59 rfl (by rw [Zq1.out.1]; exact Tryz.info7))
 have HK5 := Lib.hid HG5.out.h
 have HGz := HG5
 have HSz := HK5
 refine wp_region_linek (S := fun w' => Held w' [(g2, q2, 59), (g1, q1, 59), ((w.heap.size + 1), ptC false (.slice B1 m1 d1) (.slice B2 m2 d2) (.slice B3 m3 d3) (.slice B4 m4 d4), 61), (w.heap.size, ptC false (.slice A1 n1 c1) (.slice A2 n2 c2) (.slice A3 n3 c3) (.slice A4 n4 c4), 61)]) [(true, 0), (true, 1), (false, 2), (true, 3), (true, 4), (false, 5), (true, 6), (true, 7)] HSz.out ?_
 refine SQ.out ?_
 refine g_psk [(0, .pointer (some ⟨w.heap.size, 3, none⟩))] ?_
 refine g_ldk (some 35) FYA.out ?_
 refine g_ck (some 36) Tryz.func83 (lzero7_x (HYA.out.below HGz.out.b)) ?_
 rintro e v1 ⟨he, bw1⟩
 rw [HY0.out] at he
 subst he
 have HGn := Lib.hid (HGz.out.on bw1)
 have HSn := Lib.hid HGn.out.h
 clear HGz HSz
 have HGz := HGn
 have HS1 := HSn
 have HSz := HSn
 have Rq1 := Lib.hid (Rq1.out.below bw1)
 have Rq2 := Lib.hid (Rq2.out.below bw1)
 refine ⟨_, rfl, HS1.out, ?_⟩
 refine g_psk [(3, .bool false)] ?_
 refine g_ldk (some 38) F1.out ?_
 refine g_ck (some 39) Tryz.func83 (lzero7_x Rq1.out) ?_
 rintro e v2 ⟨he, bw2⟩
 rw [HAb.out] at he
 subst he
 have HGn := Lib.hid (HGz.out.on bw2)
 have HSn := Lib.hid HGn.out.h
 clear HGz HSz
 have HGz := HGn
 have HS2 := HSn
 have HSz := HSn
 have Rq1 := Lib.hid (Rq1.out.below bw2)
 have Rq2 := Lib.hid (Rq2.out.below bw2)
 refine ⟨_, rfl, HS2.out, ?_⟩
 refine g_psk [(6, .bool false), (7, .bool false)] ?_
 refine g_normk { tmps := List.toArray (List.append [.agg (ptC false (.slice A1 n1 c1) (.slice A2 n2 c2) (.slice A3 n3 c3) (.slice A4 n4 c4)), .agg (ptC false (.slice B1 m1 d1) (.slice B2 m2 d2) (.slice B3 m3 d3) (.slice B4 m4 d4)), .slice pA pn pc, .pointer (some ⟨w.heap.size, 0, none⟩), .pointer (some ⟨(w.heap.size + 1), 0, none⟩), undef, .pointer (some ⟨(w.heap.size + 1 + 1), 0, none⟩), .pointer (some ⟨g1, 0, none⟩), .pointer (some ⟨g2, 0, none⟩), undef, undef, undef, undef, undef, .pointer (some ⟨w.heap.size, 0, none⟩), .bool false, undef, .pointer (some ⟨(w.heap.size + 1), 0, none⟩), .bool false, undef, .pointer (some ⟨(w.heap.size + 1), 3, none⟩), .agg #[.slice B3 m3 d3, .slice B4 m4 d4], .pointer (some ⟨w.heap.size, 3, none⟩), .agg #[.slice A3 n3 c3, .slice A4 n4 c4], .slice pA pn pc, .agg q1, .pointer (some ⟨(w.heap.size + 1), 1, none⟩), .agg #[.slice B1 m1 d1, .slice B2 m2 d2], .pointer (some ⟨w.heap.size, 1, none⟩), .agg #[.slice A1 n1 c1, .slice A2 n2 c2], .slice pA pn pc, .agg q2, .agg q2, .bool true, .pointer (some ⟨w.heap.size, 3, none⟩), .agg #[.slice A3 n3 c3, .slice A4 n4 c4], .bool false, .bool false, .agg q1, .bool true] (List.append [.bool false, .bool false, undef, undef, undef, undef, undef, undef, undef, undef, undef, undef, undef, undef, undef, undef, undef, undef, undef, undef, undef, undef, undef, undef, undef, undef, undef, undef, undef, undef, undef, undef, undef, undef, undef, undef, undef, undef, undef, undef] ([undef, undef, undef, undef, undef, undef, undef, undef, undef, undef, undef, undef, undef, undef, undef, undef, undef, undef]))), defers := [] } ?_
 refine g_done ?_
 refine ‹∀ a w, Code.wp _ _ _ a w → _› _ _ ?_
 clear FYA F1
 have HG900 := HGz
 clear HGz
 have HHg2 := Lib.hid (show _ = some (Obj.cells (q2) 59 (0, 0)) from HG900.out.h (g2, q2, 59) (.head _))
 have HHg1 := Lib.hid (show _ = some (Obj.cells (q1) 59 (0, 0)) from HG900.out.h (g1, q1, 59) (.tail _ (.head _)))
 have HHB := Lib.hid (show _ = some (Obj.cells (ptC false (.slice B1 m1 d1) (.slice B2 m2 d2) (.slice B3 m3 d3) (.slice B4 m4 d4)) 61 (0, 0)) from HG900.out.h ((w.heap.size + 1), ptC false (.slice B1 m1 d1) (.slice B2 m2 d2) (.slice B3 m3 d3) (.slice B4 m4 d4), 61) (.tail _ (.tail _ (.head _))))
 have HHA := Lib.hid (show _ = some (Obj.cells (ptC false (.slice A1 n1 c1) (.slice A2 n2 c2) (.slice A3 n3 c3) (.slice A4 n4 c4)) 61 (0, 0)) from HG900.out.h (w.heap.size, ptC false (.slice A1 n1 c1) (.slice A2 n2 c2) (.slice A3 n3 c3) (.slice A4 n4 c4), 61) (.tail _ (.tail _ (.tail _ (.head _)))))
 go_wp2_with (first | refine load_mid rfl (.tmp 43) rfl w.heap.size 1 _ (.slice A1 n1 c1) (.slice A2 n2 c2) rfl HHA.out rfl rfl ?_ | refine load_mid rfl (.tmp 45) rfl w.heap.size 1 _ (.slice A1 n1 c1) (.slice A2 n2 c2) rfl HHA.out rfl rfl ?_)
 refine (lmul7_x (HXA.out.below HG900.out.b) (HXA.out.below HG900.out.b) (HP.out.below HG900.out.b) HI.out.1 HI.out.1 HI.out.2.2.2.2.1).mono ?_
 rintro e w4 ⟨v4, rfl, k4, b4⟩
 obtain ⟨qx, rfl⟩ := k4.q
 have Zqx := Lib.hid k4.arr
 have HG901 := Lib.hid (HG900.out.on b4)
 have HN4 := Lib.hid (heap_alloc_new w4 (.cells #[.slice none 0 0, .slice none 0 0] 59))
 have APqx := Lib.hid HG901.out.h.apart
 have GEqx := Lib.hid HG901.out.b.size
 have bu4 := below_setRow2 ((Below.refl w4.heap.size w4).alloc (Nat.le_refl _) (.cells #[.slice none 0 0, .slice none 0 0] 59)) (Nat.le_refl _) qx
 have HG902 := Lib.hid ((HG901.out.new #[.slice none 0 0, .slice none 0 0] 59).putAt HG901.out.b.size HG901.out.h.apart qx)
 have Rq1 := Lib.hid ((Rq1.out.below b4).below bu4)
 have Rq2 := Lib.hid ((Rq2.out.below b4).below bu4)
 have Rqx := Lib.hid (k4.below bu4)
 clear k4 b4 bu4 HG900 HG901
 have HHnew := Lib.hid (show _ = some (Obj.cells (qx) 59 (0, 0)) from HG902.out.h (w4.heap.size, qx, 59) (.head _))
 have HHg2 := Lib.hid (show _ = some (Obj.cells (q2) 59 (0, 0)) from HG902.out.h (g2, q2, 59) (.tail _ (.head _)))
 have HHg1 := Lib.hid (show _ = some (Obj.cells (q1) 59 (0, 0)) from HG902.out.h (g1, q1, 59) (.tail _ (.tail _ (.head _))))
 have HHB := Lib.hid (show _ = some (Obj.cells (ptC false (.slice B1 m1 d1) (.slice B2 m2 d2) (.slice B3 m3 d3) (.slice B4 m4 d4)) 61 (0, 0)) from HG902.out.h ((w.heap.size + 1), ptC false (.slice B1 m1 d1) (.slice B2 m2 d2) (.slice B3 m3 d3) (.slice B4 m4 d4), 61) (.tail _ (.tail _ (.tail _ (.head _)))))
 have HHA := Lib.hid (show _ = some (Obj.cells (ptC false (.slice A1 n1 c1) (.slice A2 n2 c2) (.slice A3 n3 c3) (.slice A4 n4 c4)) 61 (0, 0)) from HG902.out.h (w.heap.size, ptC false (.slice A1 n1 c1) (.slice A2 n2 c2) (.slice A3 n3 c3) (.slice A4 n4 c4), 61) (.tail _ (.tail _ (.tail _ (.tail _ (.head _))))))
 go_upto_region 11 with (first | refine store_v rfl 59 (.tmp 9) (.tmp 48) rfl w4.heap.size _ qx rfl rfl HN4.out (by rw [Zqx.out.1]; exact Tryz.info7) (by rw [Zqx.out.1]; rfl) Zqx.out.2 ?_)
 clear HN4
 generalize (w4.alloc _).setRow _ _ = u4 at *
 generalize w4.heap.size = gxx at *
 have HG0 := Lib.hid HG902.out.drew
 have HS0 : Hid (Held _ [(gxx, qx, 59)]) := Lib.hid (fun q hq => HG0.out.h q (by simp only [List.mem_cons, List.not_mem_nil, or_false] at hq; subst hq; exact .head _))
 have Fx := Lib.hid (show ∀ w', Held w' [(gxx, qx, 59)] → (Instr.loadAt 59 (.pointer (some ⟨gxx, 0, none⟩))).run Tryz.prog w' = .ok (.agg qx) w' from fun w' hw => cells_load (hw _ (.head _)) Tryz.underlying59 rfl (by rw [Zqx.out.1]; exact Tryz.info7))
 have Rqx0 := Lib.hid (Rqx.out.below (bd7 _))
 refine sq_gok (S := fun w' => Held w' [(gxx, qx, 59)]) [(true, 0), (true, 1), (true, 2), (true, 4), (true, 5), (false, 3), (false, 6), (false, 7)] HS0.out ?_
 refine sq_ldk (some 49) Fx.out ?_
 refine sq_ldk (some 50) Fx.out ?_
 refine sq_psk [(2, .slice pA pn pc)] ?_
 refine sq_ldk (some 53) Fx.out ?_
 refine sq_psk [(5, .slice pA pn pc)] ?_
 refine sq_ck (some 52) Tryz.func84 (ladd7_x Rqx0.out Rqx0.out (HP.out.below HG0.out.b) (mulP_in (Nat.lt_trans Nat.zero_lt_one HI.out.2.2.2.2.2) _ _) (mulP_in (Nat.lt_trans Nat.zero_lt_one HI.out.2.2.2.2.2) _ _) HI.out.2.2.2.2.1) ?_
 rintro e v1 ⟨y1, rfl, k1, bw1⟩
 obtain ⟨qy, rfl⟩ := k1.q
 have Rqy := Lib.hid k1
 have Rqx1 := Lib.hid (Rqx0.out.below bw1)
 have HG1 := Lib.hid (HG0.out.on bw1)
 have HS1 : Hid (Held _ [(gxx, qx, 59)]) := Lib.hid (HS0.out.on bw1)
 refine ⟨_, rfl, HS1.out, ?_⟩
 refine sq_ck (some 55) Tryz.func84 (ladd7_x Rqy.out Rqx1.out (HP.out.below HG1.out.b) (addP_in (Nat.lt_trans Nat.zero_lt_one HI.out.2.2.2.2.2) _ _) (mulP_in (Nat.lt_trans Nat.zero_lt_one HI.out.2.2.2.2.2) _ _) HI.out.2.2.2.2.1) ?_
 rintro e v2 ⟨y2, rfl, k2, bw2⟩
 obtain ⟨qz, rfl⟩ := k2.q
 have Rqz := Lib.hid k2
 have Zqz := Lib.hid k2.arr
 have HG2 := Lib.hid (HG1.out.on bw2)
 have HS2 : Hid (Held _ [(gxx, qx, 59)]) := Lib.hid (HS1.out.on bw2)
 refine ⟨_, rfl, HS2.out, ?_⟩
 have HGp : Hid (Begun w _ [(g1, q1, 59), (gxx, qx, 59), (g2, q2, 59), ((w.heap.size + 1), ptC false (.slice B1 m1 d1) (.slice B2 m2 d2) (.slice B3 m3 d3) (.slice B4 m4 d4), 61), (w.heap.size, ptC false (.slice A1 n1 c1) (.slice A2 n2 c2) (.slice A3 n3 c3) (.slice A4 n4 c4), 61)] (w.heap.size + 1 + 1) #[.bool false, .slice none 0 0, .slice none 0 0, .slice none 0 0, .slice none 0 0] 61) := Lib.hid (Begun.sub HG2.out (by intro q hq; simp only [List.mem_cons, List.not_mem_nil, or_false] at hq; rcases hq with rfl | rfl | rfl | rfl | rfl <;> simp))
 have HH1 := Lib.hid (show (World.heap _)[g1]? = some (Obj.cells q1 59 (0, 0)) from HGp.out.h _ (.head _))
 have HGq := Lib.hid (HGp.out.putAt GEq1.out (fun q hq => by simp only [List.mem_cons, List.not_mem_nil, or_false] at hq; rcases hq with rfl | rfl | rfl | rfl; exact (APqx.out _ (.tail _ (.head _))).symm; exact (APq2.out _ (.head _)).symm; exact APq1.out _ (.head _); exact APq1.out _ (.tail _ (.head _))) qz)
 refine sq_st 59 g1 qz HH1.out (by rw [Zqz.out.1]; exact Tryz.info7) (by rw [Zqz.out.1, Zq1.out.1]) Zqz.out.2 (HS2.out.setRow (fun q hq => by simp only [List.mem_cons, List.not_mem_nil, or_false] at hq; subst hq; exact (APqx.out _ (.tail _ (.head _))).symm)) (by kernel_rfl) ?_
 have Rqz := Lib.hid (Rqz.out.setRow (C' := qz) HH1.out (by decide))
 refine sq_fink { tmps := List.toArray (List.append [.agg (ptC false (.slice A1 n1 c1) (.slice A2 n2 c2) (.slice A3 n3 c3) (.slice A4 n4 c4)), .agg (ptC false (.slice B1 m1 d1) (.slice B2 m2 d2) (.slice B3 m3 d3) (.slice B4 m4 d4)), .slice pA pn pc, .pointer (some ⟨w.heap.size, 0, none⟩), .pointer (some ⟨(w.heap.size + 1), 0, none⟩), undef, .pointer (some ⟨(w.heap.size + 1 + 1), 0, none⟩), .pointer (some ⟨g1, 0, none⟩), .pointer (some ⟨g2, 0, none⟩), .pointer (some ⟨gxx, 0, none⟩), undef, undef, undef, undef, .pointer (some ⟨w.heap.size, 0, none⟩), .bool false, undef, .pointer (some ⟨(w.heap.size + 1), 0, none⟩), .bool false, undef, .pointer (some ⟨(w.heap.size + 1), 3, none⟩), .agg #[.slice B3 m3 d3, .slice B4 m4 d4], .pointer (some ⟨w.heap.size, 3, none⟩), .agg #[.slice A3 n3 c3, .slice A4 n4 c4], .slice pA pn pc, .agg q1, .pointer (some ⟨(w.heap.size + 1), 1, none⟩), .agg #[.slice B1 m1 d1, .slice B2 m2 d2], .pointer (some ⟨w.heap.size, 1, none⟩), .agg #[.slice A1 n1 c1, .slice A2 n2 c2], .slice pA pn pc, .agg q2, .agg q2, .bool true, .pointer (some ⟨w.heap.size, 3, none⟩), .agg #[.slice A3 n3 c3, .slice A4 n4 c4], .bool false, .bool false, .agg q1, .bool true] (List.append [.bool false, .bool false, undef, .pointer (some ⟨w.heap.size, 1, none⟩), .agg #[.slice A1 n1 c1, .slice A2 n2 c2], .pointer (some ⟨w.heap.size, 1, none⟩), .agg #[.slice A1 n1 c1, .slice A2 n2 c2], .slice pA pn pc, .agg qx, .agg qx, .agg qx, .slice pA pn pc, .agg qy, .agg qx, .slice pA pn pc, .agg qz, undef, undef, undef, undef, undef, undef, undef, undef, undef, undef, undef, undef, undef, undef, undef, undef, undef, undef, undef, undef, undef, undef, undef, undef] ([undef, undef, undef, undef, undef, undef, undef, undef, undef, undef, undef, undef, undef, undef, undef, undef, undef, undef]))), defers := [] } ?_
 refine ‹∀ a w, Code.wp _ _ _ a w → _› _ _ ?_
 clear HG0 HG1 HG2 HS0 HS1 HS2 Fx HGp HH1
 generalize World.setRow _ g1 qz = u9 at *
 have HG920 := HGq
 clear HGq
 have Rqz := Lib.hid (show PairX _ (.agg qz) (tripleP n xA) from Rqz.out)
 have HHg1 := Lib.hid (show _ = some (Obj.cells (qz) 59 (0, 0)) from HG920.out.h (g1, qz, 59) (.head _))
 have HHgxx := Lib.hid (show _ = some (Obj.cells (qx) 59 (0, 0)) from HG920.out.h (gxx, qx, 59) (.tail _ (.head _)))
 have HHg2 := Lib.hid (show _ = some (Obj.cells (q2) 59 (0, 0)) from HG920.out.h (g2, q2, 59) (.tail _ (.tail _ (.head _))))
 have HHB := Lib.hid (show _ = some (Obj.cells (ptC false (.slice B1 m1 d1) (.slice B2 m2 d2) (.slice B3 m3 d3) (.slice B4 m4 d4)) 61 (0, 0)) from HG920.out.h ((w.heap.size + 1), ptC false (.slice B1 m1 d1) (.slice B2 m2 d2) (.slice B3 m3 d3) (.slice B4 m4 d4), 61) (.tail _ (.tail _ (.tail _ (.head _)))))
 have HHA := Lib.hid (show _ = some (Obj.cells (ptC false (.slice A1 n1 c1) (.slice A2 n2 c2) (.slice A3 n3 c3) (.slice A4 n4 c4)) 61 (0, 0)) from HG920.out.h (w.heap.size, ptC false (.slice A1 n1 c1) (.slice A2 n2 c2) (.slice A3 n3 c3) (.slice A4 n4 c4), 61) (.tail _ (.tail _ (.tail _ (.tail _ (.head _))))))
 go_wp2_with (first | refine load_mid rfl (.tmp 56) rfl w.heap.size 3 _ (.slice A3 n3 c3) (.slice A4 n4 c4) rfl HHA.out rfl rfl ?_ | refine load_mid rfl (.tmp 58) rfl w.heap.size 3 _ (.slice A3 n3 c3) (.slice A4 n4 c4) rfl HHA.out rfl rfl ?_)
 refine (ladd7_x (HYA.out.below HG920.out.b) (HYA.out.below HG920.out.b) (HP.out.below HG920.out.b) HI.out.2.1 HI.out.2.1 HI.out.2.2.2.2.1).mono ?_
 rintro e w20 ⟨v20, rfl, k20, b20⟩
 obtain ⟨qw, rfl⟩ := k20.q
 have Zqw := Lib.hid k20.arr
 have HG921 := Lib.hid (HG920.out.on b20)
 have HG922 : Hid (Begun w _ [(g2, q2, 59), (g1, qz, 59), (gxx, qx, 59), ((w.heap.size + 1), ptC false (.slice B1 m1 d1) (.slice B2 m2 d2) (.slice B3 m3 d3) (.slice B4 m4 d4), 61), (w.heap.size, ptC false (.slice A1 n1 c1) (.slice A2 n2 c2) (.slice A3 n3 c3) (.slice A4 n4 c4), 61)] (w.heap.size + 1 + 1) #[.bool false, .slice none 0 0, .slice none 0 0, .slice none 0 0, .slice none 0 0] 61) := Lib.hid (Begun.sub HG921.out (by intro q hq; simp only [List.mem_cons, List.not_mem_nil, or_false] at hq; rcases hq with rfl | rfl | rfl | rfl | rfl <;> simp))
 have HH2 := Lib.hid (show (World.heap _)[g2]? = some (Obj.cells q2 59 (0, 0)) from HG922.out.h _ (.head _))
 have HG923 := Lib.hid (HG922.out.putAt GEq2.out (fun q hq => by simp only [List.mem_cons, List.not_mem_nil, or_false] at hq; rcases hq with rfl | rfl | rfl | rfl; exact APq2.out (g1, q1, 59) (.head _); exact (APqx.out _ (.head _)).symm; exact APq2.out _ (.tail _ (.head _)); exact APq2.out _ (.tail _ (.tail _ (.head _)))) qw)
 have Rqz := Lib.hid ((Rqz.out.below b20).setRow (C' := qw) HH2.out (by decide))
 have Rqw := Lib.hid (k20.setRow (C' := qw) HH2.out (by decide))
 clear k20 b20 HG920 HG921 HG922
 have HHg2 := Lib.hid (show _ = some (Obj.cells (qw) 59 (0, 0)) from HG923.out.h (g2, qw, 59) (.head _))
 have HHg1 := Lib.hid (show _ = some (Obj.cells (qz) 59 (0, 0)) from HG923.out.h (g1, qz, 59) (.tail _ (.head _)))
 have HHgxx := Lib.hid (show _ = some (Obj.cells (qx) 59 (0, 0)) from HG923.out.h (gxx, qx, 59) (.tail _ (.tail _ (.head _))))
 have HHB := Lib.hid (show _ = some (Obj.cells (ptC false (.slice B1 m1 d1) (.slice B2 m2 d2) (.slice B3 m3 d3) (.slice B4 m4 d4)) 61 (0, 0)) from HG923.out.h ((w.heap.size + 1), ptC false (.slice B1 m1 d1) (.slice B2 m2 d2) (.slice B3 m3 d3) (.slice B4 m4 d4), 61) (.tail _ (.tail _ (.tail _ (.head _)))))
 have HHA := Lib.hid (show _ = some (Obj.cells (ptC false (.slice A1 n1 c1) (.slice A2 n2 c2) (.slice A3 n3 c3) (.slice A4 n4 c4)) 61 (0, 0)) from HG923.out.h (w.heap.size, ptC false (.slice A1 n1 c1) (.slice A2 n2 c2) (.slice A3 n3 c3) (.slice A4 n4 c4), 61) (.tail _ (.tail _ (.tail _ (.tail _ (.head _))))))
 go_wp2_with (first | refine store_v rfl 59 (.tmp 8) (.tmp 61) rfl g2 _ qw rfl rfl HH2.out (by rw [Zqw.out.1]; exact Tryz.info7) (by rw [Zqw.out.1, Zq2.out.1]) Zqw.out.2 ?_ | refine load_v rfl 59 (.tmp 8) rfl g2 qw rfl HHg2.out Tryz.underlying59 rfl (by rw [Zqw.out.1]; exact Tryz.info7) ?_)
 clear HH2
 generalize World.setRow _ g2 qw = u10 at *
 refine (linv7_x Rqw.out (HP.out.below HG923.out.b) (addP_in (Nat.lt_trans Nat.zero_lt_one HI.out.2.2.2.2.2) _ _) HI.out.2.2.2.2.1 HI.out.2.2.2.2.2).mono ?_
 rintro e w31 ⟨v31, rfl, k31, b31⟩
 generalize decide (Nat.gcd _ _ = 1) = bi at *
 obtain ⟨q3, rfl⟩ := k31.q
 have Zq3 := Lib.hid k31.arr
 have HG924 := Lib.hid (HG923.out.on b31)
 have HN31 := Lib.hid (heap_alloc_new w31 (.cells #[.slice none 0 0, .slice none 0 0] 59))
 have APq3 := Lib.hid HG924.out.h.apart
 have GEq3 := Lib.hid HG924.out.b.size
 have bu31 := below_setRow2 ((Below.refl w31.heap.size w31).alloc (Nat.le_refl _) (.cells #[.slice none 0 0, .slice none 0 0] 59)) (Nat.le_refl _) q3
 have HG925 := Lib.hid ((HG924.out.new #[.slice none 0 0, .slice none 0 0] 59).putAt HG924.out.b.size HG924.out.h.apart q3)
 have Rqz := Lib.hid ((Rqz.out.below b31).below bu31)
 have Rqw := Lib.hid ((Rqw.out.below b31).below bu31)
 have Rq3 := Lib.hid (k31.below bu31)
 clear k31 b31 bu31 HG923 HG924
 have HHnew := Lib.hid (show _ = some (Obj.cells (q3) 59 (0, 0)) from HG925.out.h (w31.heap.size, q3, 59) (.head _))
 have HHg2 := Lib.hid (show _ = some (Obj.cells (qw) 59 (0, 0)) from HG925.out.h (g2, qw, 59) (.tail _ (.head _)))
 have HHg1 := Lib.hid (show _ = some (Obj.cells (qz) 59 (0, 0)) from HG925.out.h (g1, qz, 59) (.tail _ (.tail _ (.head _))))
 have HHgxx := Lib.hid (show _ = some (Obj.cells (qx) 59 (0, 0)) from HG925.out.h (gxx, qx, 59) (.tail _ (.tail _ (.tail _ (.head _)))))
 have HHB := Lib.hid (show _ = some (Obj.cells (ptC false (.slice B1 m1 d1) (.slice B2 m2 d2) (.slice B3 m3 d3) (.slice B4 m4 d4)) 61 (0, 0)) from HG925.out.h ((w.heap.size + 1), ptC false (.slice B1 m1 d1) (.slice B2 m2 d2) (.slice B3 m3 d3) (.slice B4 m4 d4), 61) (.tail _ (.tail _ (.tail _ (.tail _ (.head _))))))
 have HHA := Lib.hid (show _ = some (Obj.cells (ptC false (.slice A1 n1 c1) (.slice A2 n2 c2) (.slice A3 n3 c3) (.slice A4 n4 c4)) 61 (0, 0)) from HG925.out.h (w.heap.size, ptC false (.slice A1 n1 c1) (.slice A2 n2 c2) (.slice A3 n3 c3) (.slice A4 n4 c4), 61) (.tail _ (.tail _ (.tail _ (.tail _ (.tail _ (.head _)))))))
 go_wp2_with (first | refine store_v rfl 59 (.tmp 10) (.tmp 66) rfl w31.heap.size _ q3 rfl rfl HN31.out (by rw [Zq3.out.1]; exact Tryz.info7) (by rw [Zq3.out.1]; rfl) Zq3.out.2 ?_ | refine load_v rfl 59 (.tmp 7) rfl g1 qz rfl HHg1.out Tryz.underlying59 rfl (by rw [Zqz.out.1]; exact Tryz.info7) ?_ | refine load_v rfl 59 (.tmp 10) rfl w31.heap.size q3 rfl HHnew.out Tryz.underlying59 rfl (by rw [Zq3.out.1]; exact Tryz.info7) ?_)
 clear HN31
 generalize (w31.alloc _).setRow _ _ = u31 at *
 generalize w31.heap.size = g3 at *
 refine (lmul7_x Rqz.out Rq3.out (HP.out.below HG925.out.b) (addP_in (Nat.lt_trans Nat.zero_lt_one HI.out.2.2.2.2.2) _ _) (inv7_in (Nat.lt_trans Nat.zero_lt_one HI.out.2.2.2.2.2)) HI.out.2.2.2.2.1).mono ?_
 rintro e w32 ⟨v32, rfl, k32, b32⟩
 obtain ⟨q4, rfl⟩ := k32.q
 have Zq4 := Lib.hid k32.arr
 have HG926 := Lib.hid (HG925.out.on b32)
 have HN32 := Lib.hid (heap_alloc_new w32 (.cells #[.slice none 0 0, .slice none 0 0] 59))
 have APq4 := Lib.hid HG926.out.h.apart
 have GEq4 := Lib.hid HG926.out.b.size
 have bu32 := below_setRow2 ((Below.refl w32.heap.size w32).alloc (Nat.le_refl _) (.cells #[.slice none 0 0, .slice none 0 0] 59)) (Nat.le_refl _) q4
 have HG927 := Lib.hid ((HG926.out.new #[.slice none 0 0, .slice none 0 0] 59).putAt HG926.out.b.size HG926.out.h.apart q4)
 have Rqz := Lib.hid ((Rqz.out.below b32).below bu32)
 have Rqw := Lib.hid ((Rqw.out.below b32).below bu32)
 have Rq3 := Lib.hid ((Rq3.out.below b32).below bu32)
 have Rq4 := Lib.hid (k32.below bu32)
 clear k32 b32 bu32 HG925 HG926
 have HHnew := Lib.hid (show _ = some (Obj.cells (q4) 59 (0, 0)) from HG927.out.h (w32.heap.size, q4, 59) (.head _))
 have HHg3 := Lib.hid (show _ = some (Obj.cells (q3) 59 (0, 0)) from HG927.out.h (g3, q3, 59) (.tail _ (.head _)))
 have HHg2 := Lib.hid (show _ = some (Obj.cells (qw) 59 (0, 0)) from HG927.out.h (g2, qw, 59) (.tail _ (.tail _ (.head _))))
 have HHg1 := Lib.hid (show _ = some (Obj.cells (qz) 59 (0, 0)) from HG927.out.h (g1, qz, 59) (.tail _ (.tail _ (.tail _ (.head _)))))
 have HHgxx := Lib.hid (show _ = some (Obj.cells (qx) 59 (0, 0)) from HG927.out.h (gxx, qx, 59) (.tail _ (.tail _ (.tail _ (.tail _ (.head _))))))
 have HHB := Lib.hid (show _ = some (Obj.cells (ptC false (.slice B1 m1 d1) (.slice B2 m2 d2) (.slice B3 m3 d3) (.slice B4 m4 d4)) 61 (0, 0)) from HG927.out.h ((w.heap.size + 1), ptC false (.slice B1 m1 d1) (.slice B2 m2 d2) (.slice B3 m3 d3) (.slice B4 m4 d4), 61) (.tail _ (.tail _ (.tail _ (.tail _ (.tail _ (.head _)))))))
 have HHA := Lib.hid (show _ = some (Obj.cells (ptC false (.slice A1 n1 c1) (.slice A2 n2 c2) (.slice A3 n3 c3) (.slice A4 n4 c4)) 61 (0, 0)) from HG927.out.h (w.heap.size, ptC false (.slice A1 n1 c1) (.slice A2 n2 c2) (.slice A3 n3 c3) (.slice A4 n4 c4), 61) (.tail _ (.tail _ (.tail _ (.tail _ (.tail _ (.tail _ (.head _))))))))
 go_upto_region 15 with (first | refine store_v rfl 59 (.tmp 12) (.tmp 71) rfl w32.heap.size _ q4 rfl rfl HN32.out (by rw [Zq4.out.1]; exact Tryz.info7) (by rw [Zq4.out.1]; rfl) Zq4.out.2 ?_)
 clear HN32
 generalize (w32.alloc _).setRow _ _ = u32 at *
 generalize w32.heap.size = g4 at *
 obtain ⟨M, hM⟩ : ∃ M, mulP n (tripleP n xA) (inv7 (addP n yA yA) n) = M := ⟨_, rfl⟩
 have HM := Lib.hid hM
 rw [hM] at Rq4
 have iM := Lib.hid (show InP2 n M from by rw [← hM]; exact mulP_in (Nat.lt_trans Nat.zero_lt_one HI.out.2.2.2.2.2) _ _)
 clear hM
 refine Code.wp_mono (Q := fun e a' w' => e = .normal ∧ ∃ (q5 q6 q7 : Array Value) (gX : Nat), a' = { tmps := List.toArray (List.append [.agg (ptC false (.slice A1 n1 c1) (.slice A2 n2 c2) (.slice A3 n3 c3) (.slice A4 n4 c4)), .agg (ptC false (.slice B1 m1 d1) (.slice B2 m2 d2) (.slice B3 m3 d3) (.slice B4 m4 d4)), .slice pA pn pc, .pointer (some ⟨w.heap.size, 0, none⟩), .pointer (some ⟨(w.heap.size + 1), 0, none⟩), undef, .pointer (some ⟨(w.heap.size + 1 + 1), 0, none⟩), .pointer (some ⟨g1, 0, none⟩), .pointer (some ⟨g2, 0, none⟩), .pointer (some ⟨gxx, 0, none⟩), .pointer (some ⟨g3, 0, none⟩), .bool bi, .pointer (some ⟨g4, 0, none⟩), .pointer (some ⟨gX, 0, none⟩), .pointer (some ⟨w.heap.size, 0, none⟩), .bool false, undef, .pointer (some ⟨(w.heap.size + 1), 0, none⟩), .bool false, undef, .pointer (some ⟨(w.heap.size + 1), 3, none⟩), .agg #[.slice B3 m3 d3, .slice B4 m4 d4], .pointer (some ⟨w.heap.size, 3, none⟩), .agg #[.slice A3 n3 c3, .slice A4 n4 c4], .slice pA pn pc, .agg q1, .pointer (some ⟨(w.heap.size + 1), 1, none⟩), .agg #[.slice B1 m1 d1, .slice B2 m2 d2], .pointer (some ⟨w.heap.size, 1, none⟩), .agg #[.slice A1 n1 c1, .slice A2 n2 c2], .slice pA pn pc, .agg q2, .agg q2, .bool true, .pointer (some ⟨w.heap.size, 3, none⟩), .agg #[.slice A3 n3 c3, .slice A4 n4 c4], .bool false, .bool false, .agg q1, .bool true] (List.append [.bool false, .bool false, undef, .pointer (some ⟨w.heap.size, 1, none⟩), .agg #[.slice A1 n1 c1, .slice A2 n2 c2], .pointer (some ⟨w.heap.size, 1, none⟩), .agg #[.slice A1 n1 c1, .slice A2 n2 c2], .slice pA pn pc, .agg qx, .agg qx, .agg qx, .slice pA pn pc, .agg qy, .agg qx, .slice pA pn pc, .agg qz, .pointer (some ⟨w.heap.size, 3, none⟩), .agg #[.slice A3 n3 c3, .slice A4 n4 c4], .pointer (some ⟨w.heap.size, 3, none⟩), .agg #[.slice A3 n3 c3, .slice A4 n4 c4], .slice pA pn pc, .agg qw, .tuple #[.agg q3, .bool bi], .agg qw, .slice pA pn pc, .tuple #[.agg q3, .bool bi], .agg q3, .bool bi, .agg qz, .agg q3, .slice pA pn pc, .agg q4, .agg q4, .agg q4, .slice pA pn pc, .agg q5, .pointer (some ⟨w.heap.size, 1, none⟩), .agg #[.slice A1 n1 c1, .slice A2 n2 c2], .slice pA pn pc, .agg q6] ([.pointer (some ⟨(w.heap.size + 1), 1, none⟩), .agg #[.slice B1 m1 d1, .slice B2 m2 d2], .slice pA pn pc, .agg q7, undef, undef, undef, undef, undef, undef, undef, undef, undef, undef, undef, undef, undef, undef]))), defers := [] } ∧ PairX w' (.agg q7) (subP n (subP n (mulP n M M) xA) xB) ∧ PairX w' (.agg q4) M ∧ Begun w w' ((gX, q7, 59) :: [(g4, q4, 59), (g3, q3, 59), (g2, qw, 59), (g1, qz, 59), (gxx, qx, 59), ((w.heap.size + 1), ptC false (.slice B1 m1 d1) (.slice B2 m2 d2) (.slice B3 m3 d3) (.slice B4 m4 d4), 61), (w.heap.size, ptC false (.slice A1 n1 c1) (.slice A2 n2 c2) (.slice A3 n3 c3) (.slice A4 n4 c4), 61)]) (w.heap.size + 1 + 1) #[.bool false, .slice none 0 0, .slice none 0 0, .slice none 0 0, .slice none 0 0] 61) ?_ ?_
 rotate_left
 ·refine m_begin (S := fun w' => Held w' [(g4, q4, 59), (g3, q3, 59), (g2, qw, 59), (g1, qz, 59), (gxx, qx, 59), ((w.heap.size + 1), ptC false (.slice B1 m1 d1) (.slice B2 m2 d2) (.slice B3 m3 d3) (.slice B4 m4 d4), 61), (w.heap.size, ptC false (.slice A1 n1 c1) (.slice A2 n2 c2) (.slice A3 n3 c3) (.slice A4 n4 c4), 61)]) (by kernel_rfl) 14 (by kernel_rfl) ?_
  have HG0 := Lib.hid HG927.out.drew
  have HS0 := Lib.hid HG0.out.h
  have R40 := Lib.hid (Rq4.out.below (bd7 _))
  change wpM _ _ _ _ _ _ _ _ (World.drew _)
  generalize World.drew u32 = w0 at *
  have F4 := Lib.hid (show ∀ w', Held w' [(g4, q4, 59), (g3, q3, 59), (g2, qw, 59), (g1, qz, 59), (gxx, qx, 59), ((w.heap.size + 1), ptC false (.slice B1 m1 d1) (.slice B2 m2 d2) (.slice B3 m3 d3) (.slice B4 m4 d4), 61), (w.heap.size, ptC false (.slice A1 n1 c1) (.slice A2 n2 c2) (.slice A3 n3 c3) (.slice A4 n4 c4), 61)] → (Instr.loadAt 59 (.pointer (some ⟨g4, 0, none⟩))).run Tryz.prog w' = .ok (.agg q4) w' from fun w' hw => cells_load (show _ = some (Obj.cells (q4) 59 (0, 0)) from hw (g4, q4, 59) (.head _)) Tryz.underlying59 rfl (by rw [Zq4.out.1]; exact Tryz.info7))
  have FXA := Lib.hid (show ∀ w', Held w' [(g4, q4, 59), (g3, q3, 59), (g2, qw, 59), (g1, qz, 59), (gxx, qx, 59), ((w.heap.size + 1), ptC false (.slice B1 m1 d1) (.slice B2 m2 d2) (.slice B3 m3 d3) (.slice B4 m4 d4), 61), (w.heap.size, ptC false (.slice A1 n1 c1) (.slice A2 n2 c2) (.slice A3 n3 c3) (.slice A4 n4 c4), 61)] → (Instr.loadAt 59 (.pointer (some ⟨w.heap.size, 1, none⟩))).run Tryz.prog w' = .ok (.agg #[.slice A1 n1 c1, .slice A2 n2 c2]) w' from fun w' hw => (pt_at (show _ = some (Obj.cells (ptC false (.slice A1 n1 c1) (.slice A2 n2 c2) (.slice A3 n3 c3) (.slice A4 n4 c4)) 61 (0, 0)) from hw (w.heap.size, ptC false (.slice A1 n1 c1) (.slice A2 n2 c2) (.slice A3 n3 c3) (.slice A4 n4 c4), 61) (.tail _ (.tail _ (.tail _ (.tail _ (.tail _ (.tail _ (.head _))))))))).x)
  have FXB := Lib.hid (show ∀ w', Held w' [(g4, q4, 59), (g3, q3, 59), (g2, qw, 59), (g1, qz, 59), (gxx, qx, 59), ((w.heap.size + 1), ptC false (.slice B1 m1 d1) (.slice B2 m2 d2) (.slice B3 m3 d3) (.slice B4 m4 d4), 61), (w.heap.size, ptC false (.slice A1 n1 c1) (.slice A2 n2 c2) (.slice A3 n3 c3) (.slice A4 n4 c4), 61)] → (Instr.loadAt 59 (.pointer (some ⟨(w.heap.size + 1), 1, none⟩))).run Tryz.prog w' = .ok (.agg #[.slice B1 m1 d1, .slice B2 m2 d2]) w' from fun w' hw => (pt_at (show _ = some (Obj.cells (ptC false (.slice B1 m1 d1) (.slice B2 m2 d2) (.slice B3 m3 d3) (.slice B4 m4 d4)) 61 (0, 0)) from hw ((w.heap.size + 1), ptC false (.slice B1 m1 d1) (.slice B2 m2 d2) (.slice B3 m3 d3) (.slice B4 m4 d4), 61) (.tail _ (.tail _ (.tail _ (.tail _ (.tail _ (.head _)))))))).x)
  refine m_seqk (f := 5) iAdd15 [(true, 0), (true, 1), (true, 2), (true, 4), (true, 5), (true, 6), (true, 8), (true, 9), (true, 10)] 1911 HS0.out ?_
  refine sq_ldk (some 72) F4.out ?_
  refine sq_ldk (some 73) F4.out ?_
  refine sq_psk [(2, .slice pA pn pc), (4, .pointer (some ⟨w.heap.size, 1, none⟩))] ?_
  refine sq_ldk (some 77) FXA.out ?_
  refine sq_psk [(6, .slice pA pn pc), (8, .pointer (some ⟨(w.heap.size + 1), 1, none⟩))] ?_
  refine sq_ldk (some 81) FXB.out ?_
  refine sq_psk [(10, .slice pA pn pc)] ?_
  refine sq_done ?_
  refine m_maskk (M' := 1911) ?_
  refine m_waysk (f := 4) iAdd15 [3, 12] ?_
  intro i hi
  rcases (by simpa using hi : i = 3 ∨ i = 12) with rfl | rfl
  ·refine sq_ck (some 75) Tryz.func63 (lmul7_x R40.out R40.out (HP.out.below HG0.out.b) iM.out iM.out HI.out.2.2.2.2.1) ?_
   rintro e x1 ⟨y1, rfl, k1, bw1⟩
   obtain ⟨q5, rfl⟩ := k1.q
   have R51 := Lib.hid k1
   have R41 := Lib.hid (R40.out.below bw1)
   have HG1 := Lib.hid (HG0.out.on bw1)
   have HS1 := Lib.hid HG1.out.h
   refine ⟨_, rfl, HS1.out, ?_⟩
   refine sq_done ?_
   refine m_maskk (M' := 1919) ?_
   refine m_waysk (f := 3) iAdd15 [7, 12] ?_
   intro i hi
   rcases (by simpa using hi : i = 7 ∨ i = 12) with rfl | rfl
   ·refine sq_ck (some 79) Tryz.func82 (lsub7_x R51.out (HXA.out.below HG1.out.b) (HP.out.below HG1.out.b) (mulP_in (Nat.lt_trans Nat.zero_lt_one HI.out.2.2.2.2.2) _ _) HI.out.1 HI.out.2.2.2.2.1) ?_
    rintro e x2 ⟨y2, rfl, k2, bw2⟩
    obtain ⟨q6, rfl⟩ := k2.q
    have R62 := Lib.hid k2
    have R42 := Lib.hid (R41.out.below bw2)
    have R52 := Lib.hid (R51.out.below bw2)
    have HG2 := Lib.hid (HG1.out.on bw2)
    have HS2 := Lib.hid HG2.out.h
    refine ⟨_, rfl, HS2.out, ?_⟩
    refine sq_done ?_
    refine m_maskk (M' := 2047) ?_
    refine m_waysk (f := 2) iAdd15 [11, 12] ?_
    intro i hi
    rcases (by simpa using hi : i = 11 ∨ i = 12) with rfl | rfl
    ·refine sq_ck (some 83) Tryz.func82 (lsub7_x R62.out (HXB.out.below HG2.out.b) (HP.out.below HG2.out.b) (subP_in (Nat.lt_trans Nat.zero_lt_one HI.out.2.2.2.2.2) _ _) HI.out.2.2.1 HI.out.2.2.2.2.1) ?_
     rintro e x3 ⟨y3, rfl, k3, bw3⟩
     obtain ⟨q7, rfl⟩ := k3.q
     have R73 := Lib.hid k3
     have R43 := Lib.hid (R42.out.below bw3)
     have R53 := Lib.hid (R52.out.below bw3)
     have R63 := Lib.hid (R62.out.below bw3)
     have HG3 := Lib.hid (HG2.out.on bw3)
     have HS3 := Lib.hid HG3.out.h
     refine ⟨_, rfl, HS3.out, ?_⟩
     refine sq_done ?_
     refine m_seqk (f := 0) iAdd15 [(false, 12), (false, 13)] 16383 HS3.out ?_
     have bz4 := (Below.refl x3.heap.size x3).alloc (Nat.le_refl _) (.cells #[.slice none 0 0, .slice none 0 0] 59)
     have AP := Lib.hid HG3.out.h.apart
     have hgeX := HG3.out.b.size
     have APo := Lib.hid (show x3.heap.size ≠ (w.heap.size + 1 + 1) from by have := (Array.getElem?_eq_some_iff.1 HG3.out.out).1; omega)
     have HX4 := Lib.hid (heap_alloc_new x3 (.cells #[.slice none 0 0, .slice none 0 0] 59))
     have HG4 := Lib.hid (HG3.out.on bz4)
     have HS4 := Lib.hid HG4.out.h
     have R44 := Lib.hid (R43.out.below bz4)
     have R54 := Lib.hid (R53.out.below bz4)
     have R64 := Lib.hid (R63.out.below bz4)
     have R74 := Lib.hid (R73.out.below bz4)
     refine sq_allock (some 13) 59 #[.slice none 0 0, .slice none 0 0] (zero_7 _) HS4.out ?_
     generalize x3.alloc _ = x4 at *
     generalize x3.heap.size = gX at *
     have HGX := Lib.hid (Begun.more HG4.out HX4.out APo.out)
     have HE := Lib.hid (HGX.out.putAt hgeX AP.out q7)
     have Z7 := Lib.hid R74.out.arr
     refine sq_st 59 gX q7 HX4.out (by rw [Z7.out.1]; exact Tryz.info7) (by rw [Z7.out.1]; rfl) Z7.out.2 (HS4.out.setRow AP.out) (by kernel_rfl) ?_
     refine sq_done ?_
     refine m_donek iAdd15 { tmps := List.toArray (List.append [.agg (ptC false (.slice A1 n1 c1) (.slice A2 n2 c2) (.slice A3 n3 c3) (.slice A4 n4 c4)), .agg (ptC false (.slice B1 m1 d1) (.slice B2 m2 d2) (.slice B3 m3 d3) (.slice B4 m4 d4)), .slice pA pn pc, .pointer (some ⟨w.heap.size, 0, none⟩), .pointer (some ⟨(w.heap.size + 1), 0, none⟩), undef, .pointer (some ⟨(w.heap.size + 1 + 1), 0, none⟩), .pointer (some ⟨g1, 0, none⟩), .pointer (some ⟨g2, 0, none⟩), .pointer (some ⟨gxx, 0, none⟩), .pointer (some ⟨g3, 0, none⟩), .bool bi, .pointer (some ⟨g4, 0, none⟩), .pointer (some ⟨gX, 0, none⟩), .pointer (some ⟨w.heap.size, 0, none⟩), .bool false, undef, .pointer (some ⟨(w.heap.size + 1), 0, none⟩), .bool false, undef, .pointer (some ⟨(w.heap.size + 1), 3, none⟩), .agg #[.slice B3 m3 d3, .slice B4 m4 d4], .pointer (some ⟨w.heap.size, 3, none⟩), .agg #[.slice A3 n3 c3, .slice A4 n4 c4], .slice pA pn pc, .agg q1, .pointer (some ⟨(w.heap.size + 1), 1, none⟩), .agg #[.slice B1 m1 d1, .slice B2 m2 d2], .pointer (some ⟨w.heap.size, 1, none⟩), .agg #[.slice A1 n1 c1, .slice A2 n2 c2], .slice pA pn pc, .agg q2, .agg q2, .bool true, .pointer (some ⟨w.heap.size, 3, none⟩), .agg #[.slice A3 n3 c3, .slice A4 n4 c4], .bool false, .bool false, .agg q1, .bool true] (List.append [.bool false, .bool false, undef, .pointer (some ⟨w.heap.size, 1, none⟩), .agg #[.slice A1 n1 c1, .slice A2 n2 c2], .pointer (some ⟨w.heap.size, 1, none⟩), .agg #[.slice A1 n1 c1, .slice A2 n2 c2], .slice pA pn pc, .agg qx, .agg qx, .agg qx, .slice pA pn pc, .agg qy, .agg qx, .slice pA pn pc, .agg qz, .pointer (some ⟨w.heap.size, 3, none⟩), .agg #[.slice A3 n3 c3, .slice A4 n4 c4], .pointer (some ⟨w.heap.size, 3, none⟩), .agg #[.slice A3 n3 c3, .slice A4 n4 c4], .slice pA pn pc, .agg qw, .tuple #[.agg q3, .bool bi], .agg qw, .slice pA pn pc, .tuple #[.agg q3, .bool bi], .agg q3, .bool bi, .agg qz, .agg q3, .slice pA pn pc, .agg q4, .agg q4, .agg q4, .slice pA pn pc, .agg q5, .pointer (some ⟨w.heap.size, 1, none⟩), .agg #[.slice A1 n1 c1, .slice A2 n2 c2], .slice pA pn pc, .agg q6] ([.pointer (some ⟨(w.heap.size + 1), 1, none⟩), .agg #[.slice B1 m1 d1, .slice B2 m2 d2], .slice pA pn pc, .agg q7, undef, undef, undef, undef, undef, undef, undef, undef, undef, undef, undef, undef, undef, undef]))), defers := [] } ?_
     exact ⟨rfl, q5, q6, q7, gX, rfl, R74.out.setRow HX4.out (by decide), R44.out.setRow HX4.out (by decide), HE.out⟩
    ·have bz3 := (Below.refl x2.heap.size x2).alloc (Nat.le_refl _) (.cells #[.slice none 0 0, .slice none 0 0] 59)
     have AP := Lib.hid HG2.out.h.apart
     have hgeX := HG2.out.b.size
     have APo := Lib.hid (show x2.heap.size ≠ (w.heap.size + 1 + 1) from by have := (Array.getElem?_eq_some_iff.1 HG2.out.out).1; omega)
     have HX3 := Lib.hid (heap_alloc_new x2 (.cells #[.slice none 0 0, .slice none 0 0] 59))
     have HG3 := Lib.hid (HG2.out.on bz3)
     have HS3 := Lib.hid HG3.out.h
     have R43 := Lib.hid (R42.out.below bz3)
     have R53 := Lib.hid (R52.out.below bz3)
     have R63 := Lib.hid (R62.out.below bz3)
     refine sq_allock (some 13) 59 #[.slice none 0 0, .slice none 0 0] (zero_7 _) HS3.out ?_
     generalize x2.alloc _ = x3 at *
     generalize x2.heap.size = gX at *
     refine sq_done ?_
     refine m_seqk (f := 0) iAdd15 [(false, 11), (false, 13)] 16383 HS3.out ?_
     refine sq_ck (some 83) Tryz.func82 (lsub7_x R63.out (HXB.out.below HG3.out.b) (HP.out.below HG3.out.b) (subP_in (Nat.lt_trans Nat.zero_lt_one HI.out.2.2.2.2.2) _ _) HI.out.2.2.1 HI.out.2.2.2.2.1) ?_
     rintro e x4 ⟨y4, rfl, k4, bw4⟩
     obtain ⟨q7, rfl⟩ := k4.q
     have R74 := Lib.hid k4
     have R44 := Lib.hid (R43.out.below bw4)
     have R54 := Lib.hid (R53.out.below bw4)
     have R64 := Lib.hid (R63.out.below bw4)
     have HG4 := Lib.hid (HG3.out.on bw4)
     have HS4 := Lib.hid HG4.out.h
     have HX4 := Lib.hid (stays bw4 HX3.out)
     refine ⟨_, rfl, HS4.out, ?_⟩
     have HGX := Lib.hid (Begun.more HG4.out HX4.out APo.out)
     have HE := Lib.hid (HGX.out.putAt hgeX AP.out q7)
     have Z7 := Lib.hid R74.out.arr
     refine sq_st 59 gX q7 HX4.out (by rw [Z7.out.1]; exact Tryz.info7) (by rw [Z7.out.1]; rfl) Z7.out.2 (HS4.out.setRow AP.out) (by kernel_rfl) ?_
     refine sq_done ?_
     refine m_donek iAdd15 { tmps := List.toArray (List.append [.agg (ptC false (.slice A1 n1 c1) (.slice A2 n2 c2) (.slice A3 n3 c3) (.slice A4 n4 c4)), .agg (ptC false (.slice B1 m1 d1) (.slice B2 m2 d2) (.slice B3 m3 d3) (.slice B4 m4 d4)), .slice pA pn pc, .pointer (some ⟨w.heap.size, 0, none⟩), .pointer (some ⟨(w.heap.size + 1), 0, none⟩), undef, .pointer (some ⟨(w.heap.size + 1 + 1), 0, none⟩), .pointer (some ⟨g1, 0, none⟩), .pointer (some ⟨g2, 0, none⟩), .pointer (some ⟨gxx, 0, none⟩), .pointer (some ⟨g3, 0, none⟩), .bool bi, .pointer (some ⟨g4, 0, none⟩), .pointer (some ⟨gX, 0, none⟩), .pointer (some ⟨w.heap.size, 0, none⟩), .bool false, undef, .pointer (some ⟨(w.heap.size + 1), 0, none⟩), .bool false, undef, .pointer (some ⟨(w.heap.size + 1), 3, none⟩), .agg #[.slice B3 m3 d3, .slice B4 m4 d4], .pointer (some ⟨w.heap.size, 3, none⟩), .agg #[.slice A3 n3 c3, .slice A4 n4 c4], .slice pA pn pc, .agg q1, .pointer (some ⟨(w.heap.size + 1), 1, none⟩), .agg #[.slice B1 m1 d1, .slice B2 m2 d2], .pointer (some ⟨w.heap.size, 1, none⟩), .agg #[.slice A1 n1 c1, .slice A2 n2 c2], .slice pA pn pc, .agg q2, .agg q2, .bool true, .pointer (some ⟨w.heap.size, 3, none⟩), .agg #[.slice A3 n3 c3, .slice A4 n4 c4], .bool false, .bool false, .agg q1, .bool true] (List.append [.bool false, .bool false, undef, .pointer (some ⟨w.heap.size, 1, none⟩), .agg #[.slice A1 n1 c1, .slice A2 n2 c2], .pointer (some ⟨w.heap.size, 1, none⟩), .agg #[.slice A1 n1 c1, .slice A2 n2 c2], .slice pA pn pc, .agg qx, .agg qx, .agg qx, .slice pA pn pc, .agg qy, .agg qx, .slice pA pn pc, .agg qz, .pointer (some ⟨w.heap.size, 3, none⟩), .agg #[.slice A3 n3 c3, .slice A4 n4 c4], .pointer (some ⟨w.heap.size, 3, none⟩), .agg #[.slice A3 n3 c3, .slice A4 n4 c4], .slice pA pn pc, .agg qw, .tuple #[.agg q3, .bool bi], .agg qw, .slice pA pn pc, .tuple #[.agg q3, .bool bi], .agg q3, .bool bi, .agg qz, .agg q3, .slice pA pn pc, .agg q4, .agg q4, .agg q4, .slice pA pn pc, .agg q5, .pointer (some ⟨w.heap.size, 1, none⟩), .agg #[.slice A1 n1 c1, .slice A2 n2 c2], .slice pA pn pc, .agg q6] ([.pointer (some ⟨(w.heap.size + 1), 1, none⟩), .agg #[.slice B1 m1 d1, .slice B2 m2 d2], .slice pA pn pc, .agg q7, undef, undef, undef, undef, undef, undef, undef, undef, undef, undef, undef, undef, undef, undef]))), defers := [] } ?_
     exact ⟨rfl, q5, q6, q7, gX, rfl, R74.out.setRow HX4.out (by decide), R44.out.setRow HX4.out (by decide), HE.out⟩
   ·have bz2 := (Below.refl x1.heap.size x1).alloc (Nat.le_refl _) (.cells #[.slice none 0 0, .slice none 0 0] 59)
    have AP := Lib.hid HG1.out.h.apart
    have hgeX := HG1.out.b.size
    have APo := Lib.hid (show x1.heap.size ≠ (w.heap.size + 1 + 1) from by have := (Array.getElem?_eq_some_iff.1 HG1.out.out).1; omega)
    have HX2 := Lib.hid (heap_alloc_new x1 (.cells #[.slice none 0 0, .slice none 0 0] 59))
    have HG2 := Lib.hid (HG1.out.on bz2)
    have HS2 := Lib.hid HG2.out.h
    have R42 := Lib.hid (R41.out.below bz2)
    have R52 := Lib.hid (R51.out.below bz2)
    refine sq_allock (some 13) 59 #[.slice none 0 0, .slice none 0 0] (zero_7 _) HS2.out ?_
    generalize x1.alloc _ = x2 at *
    generalize x1.heap.size = gX at *
    refine sq_done ?_
    refine m_seqk (f := 0) iAdd15 [(false, 7), (false, 11), (false, 13)] 16383 HS2.out ?_
    refine sq_ck (some 79) Tryz.func82 (lsub7_x R52.out (HXA.out.below HG2.out.b) (HP.out.below HG2.out.b) (mulP_in (Nat.lt_trans Nat.zero_lt_one HI.out.2.2.2.2.2) _ _) HI.out.1 HI.out.2.2.2.2.1) ?_
    rintro e x3 ⟨y3, rfl, k3, bw3⟩
    obtain ⟨q6, rfl⟩ := k3.q
    have R63 := Lib.hid k3
    have R43 := Lib.hid (R42.out.below bw3)
    have R53 := Lib.hid (R52.out.below bw3)
    have HG3 := Lib.hid (HG2.out.on bw3)
    have HS3 := Lib.hid HG3.out.h
    have HX3 := Lib.hid (stays bw3 HX2.out)
    refine ⟨_, rfl, HS3.out, ?_⟩
    refine sq_ck (some 83) Tryz.func82 (lsub7_x R63.out (HXB.out.below HG3.out.b) (HP.out.below HG3.out.b) (subP_in (Nat.lt_trans Nat.zero_lt_one HI.out.2.2.2.2.2) _ _) HI.out.2.2.1 HI.out.2.2.2.2.1) ?_
    rintro e x4 ⟨y4, rfl, k4, bw4⟩
    obtain ⟨q7, rfl⟩ := k4.q
    have R74 := Lib.hid k4
    have R44 := Lib.hid (R43.out.below bw4)
    have R54 := Lib.hid (R53.out.below bw4)
    have R64 := Lib.hid (R63.out.below bw4)
    have HG4 := Lib.hid (HG3.out.on bw4)
    have HS4 := Lib.hid HG4.out.h
    have HX4 := Lib.hid (stays bw4 HX3.out)
    refine ⟨_, rfl, HS4.out, ?_⟩
    have HGX := Lib.hid (Begun.more HG4.out HX4.out APo.out)
    have HE := Lib.hid (HGX.out.putAt hgeX AP.out q7)
    have Z7 := Lib.hid R74.out.arr
    refine sq_st 59 gX q7 HX4.out (by rw [Z7.out.1]; exact Tryz.info7) (by rw [Z7.out.1]; rfl) Z7.out.2 (HS4.out.setRow AP.out) (by kernel_rfl) ?_
    refine sq_done ?_
    refine m_donek iAdd15 { tmps := List.toArray (List.append [.agg (ptC false (.slice A1 n1 c1) (.slice A2 n2 c2) (.slice A3 n3 c3) (.slice A4 n4 c4)), .agg (ptC false (.slice B1 m1 d1) (.slice B2 m2 d2) (.slice B3 m3 d3) (.slice B4 m4 d4)), .slice pA pn pc, .pointer (some ⟨w.heap.size, 0, none⟩), .pointer (some ⟨(w.heap.size + 1), 0, none⟩), undef, .pointer (some ⟨(w.heap.size + 1 + 1), 0, none⟩), .pointer (some ⟨g1, 0, none⟩), .pointer (some ⟨g2, 0, none⟩), .pointer (some ⟨gxx, 0, none⟩), .pointer (some ⟨g3, 0, none⟩), .bool bi, .pointer (some ⟨g4, 0, none⟩), .pointer (some ⟨gX, 0, none⟩), .pointer (some ⟨w.heap.size, 0, none⟩), .bool false, undef, .pointer (some ⟨(w.heap.size + 1), 0, none⟩), .bool false, undef, .pointer (some ⟨(w.heap.size + 1), 3, none⟩), .agg #[.slice B3 m3 d3, .slice B4 m4 d4], .pointer (some ⟨w.heap.size, 3, none⟩), .agg #[.slice A3 n3 c3, .slice A4 n4 c4], .slice pA pn pc, .agg q1, .pointer (some ⟨(w.heap.size + 1), 1, none⟩), .agg #[.slice B1 m1 d1, .slice B2 m2 d2], .pointer (some ⟨w.heap.size, 1, none⟩), .agg #[.slice A1 n1 c1, .slice A2 n2 c2], .slice pA pn pc, .agg q2, .agg q2, .bool true, .pointer (some ⟨w.heap.size, 3, none⟩), .agg #[.slice A3 n3 c3, .slice A4 n4 c4], .bool false, .bool false, .agg q1, .bool true] (List.append [.bool false, .bool false, undef, .pointer (some ⟨w.heap.size, 1, none⟩), .agg #[.slice A1 n1 c1, .slice A2 n2 c2], .pointer (some ⟨w.heap.size, 1, none⟩), .agg #[.slice A1 n1 c1, .slice A2 n2 c2], .slice pA pn pc, .agg qx, .agg qx, .agg qx, .slice pA pn pc, .agg qy, .agg qx, .slice pA pn pc, .agg qz, .pointer (some ⟨w.heap.size, 3, none⟩), .agg #[.slice A3 n3 c3, .slice A4 n4 c4], .pointer (some ⟨w.heap.size, 3, none⟩), .agg #[.slice A3 n3 c3, .slice A4 n4 c4], .slice pA pn pc, .agg qw, .tuple #[.agg q3, .bool bi], .agg qw, .slice pA pn pc, .tuple #[.agg q3, .bool bi], .agg q3, .bool bi, .agg qz, .agg q3, .slice pA pn pc, .agg q4, .agg q4, .agg q4, .slice pA pn pc, .agg q5, .pointer (some ⟨w.heap.size, 1, none⟩), .agg #[.slice A1 n1 c1, .slice A2 n2 c2], .slice pA pn pc, .agg q6] ([.pointer (some ⟨(w.heap.size + 1), 1, none⟩), .agg #[.slice B1 m1 d1, .slice B2 m2 d2], .slice pA pn pc, .agg q7, undef, undef, undef, undef, undef, undef, undef, undef, undef, undef, undef, undef, undef, undef]))), defers := [] } ?_
    exact ⟨rfl, q5, q6, q7, gX, rfl, R74.out.setRow HX4.out (by decide), R44.out.setRow HX4.out (by decide), HE.out⟩
  ·have bz1 := (Below.refl w0.heap.size w0).alloc (Nat.le_refl _) (.cells #[.slice none 0 0, .slice none 0 0] 59)
   have AP := Lib.hid HG0.out.h.apart
   have hgeX := HG0.out.b.size
   have APo := Lib.hid (show w0.heap.size ≠ (w.heap.size + 1 + 1) from by have := (Array.getElem?_eq_some_iff.1 HG0.out.out).1; omega)
   have HX1 := Lib.hid (heap_alloc_new w0 (.cells #[.slice none 0 0, .slice none 0 0] 59))
   have HG1 := Lib.hid (HG0.out.on bz1)
   have HS1 := Lib.hid HG1.out.h
   have R41 := Lib.hid (R40.out.below bz1)
   refine sq_allock (some 13) 59 #[.slice none 0 0, .slice none 0 0] (zero_7 _) HS1.out ?_
   generalize w0.alloc _ = x1 at *
   generalize w0.heap.size = gX at *
   refine sq_done ?_
   refine m_seqk (f := 0) iAdd15 [(false, 3), (false, 7), (false, 11), (false, 13)] 16383 HS1.out ?_
   refine sq_ck (some 75) Tryz.func63 (lmul7_x R41.out R41.out (HP.out.below HG1.out.b) iM.out iM.out HI.out.2.2.2.2.1) ?_
   rintro e x2 ⟨y2, rfl, k2, bw2⟩
   obtain ⟨q5, rfl⟩ := k2.q
   have R52 := Lib.hid k2
   have R42 := Lib.hid (R41.out.below bw2)
   have HG2 := Lib.hid (HG1.out.on bw2)
   have HS2 := Lib.hid HG2.out.h
   have HX2 := Lib.hid (stays bw2 HX1.out)
   refine ⟨_, rfl, HS2.out, ?_⟩
   refine sq_ck (some 79) Tryz.func82 (lsub7_x R52.out (HXA.out.below HG2.out.b) (HP.out.below HG2.out.b) (mulP_in (Nat.lt_trans Nat.zero_lt_one HI.out.2.2.2.2.2) _ _) HI.out.1 HI.out.2.2.2.2.1) ?_
   rintro e x3 ⟨y3, rfl, k3, bw3⟩
   obtain ⟨q6, rfl⟩ := k3.q
   have R63 := Lib.hid k3
   have R43 := Lib.hid (R42.out.below bw3)
   have R53 := Lib.hid (R52.out.below bw3)
   have HG3 := Lib.hid (HG2.out.on bw3)
   have HS3 := Lib.hid HG3.out.h
   have HX3 := Lib.hid (stays bw3 HX2.out)
   refine ⟨_, rfl, HS3.out, ?_⟩
   refine sq_ck (some 83) Tryz.func82 (lsub7_x R63.out (HXB.out.below HG3.out.b) (HP.out.below HG3.out.b) (subP_in (Nat.lt_trans Nat.zero_lt_one HI.out.2.2.2.2.2) _ _) HI.out.2.2.1 HI.out.2.2.2.2.1) ?_
   rintro e x4 ⟨y4, rfl, k4, bw4⟩
   obtain ⟨q7, rfl⟩ := k4.q
   have R74 := Lib.hid k4
   have R44 := Lib.hid (R43.out.below bw4)
   have R54 := Lib.hid (R53.out.below bw4)
   have R64 := Lib.hid (R63.out.below bw4)
   have HG4 := Lib.hid (HG3.out.on bw4)
   have HS4 := Lib.hid HG4.out.h
   have HX4 := Lib.hid (stays bw4 HX3.out)
   refine ⟨_, rfl, HS4.out, ?_⟩
   have HGX := Lib.hid (Begun.more HG4.out HX4.out APo.out)
   have HE := Lib.hid (HGX.out.putAt hgeX AP.out q7)
   have Z7 := Lib.hid R74.out.arr
   refine sq_st 59 gX q7 HX4.out (by rw [Z7.out.1]; exact Tryz.info7) (by rw [Z7.out.1]; rfl) Z7.out.2 (HS4.out.setRow AP.out) (by kernel_rfl) ?_
   refine sq_done ?_
   refine m_donek iAdd15 { tmps := List.toArray (List.append [.agg (ptC false (.slice A1 n1 c1) (.slice A2 n2 c2) (.slice A3 n3 c3) (.slice A4 n4 c4)), .agg (ptC false (.slice B1 m1 d1) (.slice B2 m2 d2) (.slice B3 m3 d3) (.slice B4 m4 d4)), .slice pA pn pc, .pointer (some ⟨w.heap.size, 0, none⟩), .pointer (some ⟨(w.heap.size + 1), 0, none⟩), undef, .pointer (some ⟨(w.heap.size + 1 + 1), 0, none⟩), .pointer (some ⟨g1, 0, none⟩), .pointer (some ⟨g2, 0, none⟩), .pointer (some ⟨gxx, 0, none⟩), .pointer (some ⟨g3, 0, none⟩), .bool bi, .pointer (some ⟨g4, 0, none⟩), .pointer (some ⟨gX, 0, none⟩), .pointer (some ⟨w.heap.size, 0, none⟩), .bool false, undef, .pointer (some ⟨(w.heap.size + 1), 0, none⟩), .bool false, undef, .pointer (some ⟨(w.heap.size + 1), 3, none⟩), .agg #[.slice B3 m3 d3, .slice B4 m4 d4], .pointer (some ⟨w.heap.size, 3, none⟩), .agg #[.slice A3 n3 c3, .slice A4 n4 c4], .slice pA pn pc, .agg q1, .pointer (some ⟨(w.heap.size + 1), 1, none⟩), .agg #[.slice B1 m1 d1, .slice B2 m2 d2], .pointer (some ⟨w.heap.size, 1, none⟩), .agg #[.slice A1 n1 c1, .slice A2 n2 c2], .slice pA pn pc, .agg q2, .agg q2, .bool true, .pointer (some ⟨w.heap.size, 3, none⟩), .agg #[.slice A3 n3 c3, .slice A4 n4 c4], .bool false, .bool false, .agg q1, .bool true] (List.append [.bool false, .bool false, undef, .pointer (some ⟨w.heap.size, 1, none⟩), .agg #[.slice A1 n1 c1, .slice A2 n2 c2], .pointer (some ⟨w.heap.size, 1, none⟩), .agg #[.slice A1 n1 c1, .slice A2 n2 c2], .slice pA pn pc, .agg qx, .agg qx, .agg qx, .slice pA pn pc, .agg qy, .agg qx, .slice pA pn pc, .agg qz, .pointer (some ⟨w.heap.size, 3, none⟩), .agg #[.slice A3 n3 c3, .slice A4 n4 c4], .pointer (some ⟨w.heap.size, 3, none⟩), .agg #[.slice A3 n3 c3, .slice A4 n4 c4], .slice pA pn pc, .agg qw, .tuple #[.agg q3, .bool bi], .agg qw, .slice pA pn pc, .tuple #[.agg q3, .bool bi], .agg q3, .bool bi, .agg qz, .agg q3, .slice pA pn pc, .agg q4, .agg q4, .agg q4, .slice pA pn pc, .agg q5, .pointer (some ⟨w.heap.size, 1, none⟩), .agg #[.slice A1 n1 c1, .slice A2 n2 c2], .slice pA pn pc, .agg q6] ([.pointer (some ⟨(w.heap.size + 1), 1, none⟩), .agg #[.slice B1 m1 d1, .slice B2 m2 d2], .slice pA pn pc, .agg q7, undef, undef, undef, undef, undef, undef, undef, undef, undef, undef, undef, undef, undef, undef]))), defers := [] } ?_
   exact ⟨rfl, q5, q6, q7, gX, rfl, R74.out.setRow HX4.out (by decide), R44.out.setRow HX4.out (by decide), HE.out⟩
 rintro e a wx ⟨rfl, q5, q6, q7, gX, rfl, k7, k4, hG⟩
 have R7 := Lib.hid (k7.below (bd7 _))
 have R4 := Lib.hid (k4.below (bd7 _))
 have HG0 := Lib.hid hG.drew
 have HS0 := Lib.hid HG0.out.h
 clear hG k7 k4
 refine ‹∀ a w, Code.wp _ _ _ a w → _› _ _ ?_
 go_step
 have Zq7 := Lib.hid R7.out.arr
 have F7 := Lib.hid (show ∀ w', Held w' ((gX, q7, 59) :: [(g4, q4, 59), (g3, q3, 59), (g2, qw, 59), (g1, qz, 59), (gxx, qx, 59), ((w.heap.size + 1), ptC false (.slice B1 m1 d1) (.slice B2 m2 d2) (.slice B3 m3 d3) (.slice B4 m4 d4), 61), (w.heap.size, ptC false (.slice A1 n1 c1) (.slice A2 n2 c2) (.slice A3 n3 c3) (.slice A4 n4 c4), 61)]) → (Instr.loadAt 59 (.pointer (some ⟨gX, 0, none⟩))).run Tryz.prog w' = .ok (.agg q7) w' from fun w' hw => cells_load (show _ = some (Obj.cells (q7) 59 (0, 0)) from hw (gX, q7, 59) (.head _)) Tryz.underlying59 rfl (by rw [Zq7.out.1]; exact Tryz.info7))
 have F4 := Lib.hid (show ∀ w', Held w' ((gX, q7, 59) :: [(g4, q4, 59), (g3, q3, 59), (g2, qw, 59), (g1, qz, 59), (gxx, qx, 59), ((w.heap.size + 1), ptC false (.slice B1 m1 d1) (.slice B2 m2 d2) (.slice B3 m3 d3) (.slice B4 m4 d4), 61), (w.heap.size, ptC false (.slice A1 n1 c1) (.slice A2 n2 c2) (.slice A3 n3 c3) (.slice A4 n4 c4), 61)]) → (Instr.loadAt 59 (.pointer (some ⟨g4, 0, none⟩))).run Tryz.prog w' = .ok (.agg q4) w' from fun w' hw => cells_load (show _ = some (Obj.cells (q4) 59 (0, 0)) from hw (g4, q4, 59) (.tail _ (.head _))) Tryz.underlying59 rfl (by rw [Zq4.out.1]; exact Tryz.info7))
 have FXA := Lib.hid (show ∀ w', Held w' ((gX, q7, 59) :: [(g4, q4, 59), (g3, q3, 59), (g2, qw, 59), (g1, qz, 59), (gxx, qx, 59), ((w.heap.size + 1), ptC false (.slice B1 m1 d1) (.slice B2 m2 d2) (.slice B3 m3 d3) (.slice B4 m4 d4), 61), (w.heap.size, ptC false (.slice A1 n1 c1) (.slice A2 n2 c2) (.slice A3 n3 c3) (.slice A4 n4 c4), 61)]) → (Instr.loadAt 59 (.pointer (some ⟨w.heap.size, 1, none⟩))).run Tryz.prog w' = .ok (.agg #[.slice A1 n1 c1, .slice A2 n2 c2]) w' from fun w' hw => (pt_at (show _ = some (Obj.cells (ptC false (.slice A1 n1 c1) (.slice A2 n2 c2) (.slice A3 n3 c3) (.slice A4 n4 c4)) 61 (0, 0)) from hw (w.heap.size, ptC false (.slice A1 n1 c1) (.slice A2 n2 c2) (.slice A3 n3 c3) (.slice A4 n4 c4), 61) (.tail _ (.tail _ (.tail _ (.tail _ (.tail _ (.tail _ (.tail _ (.head _)))))))))).x)
 have FYA := Lib.hid (show ∀ w', Held w' ((gX, q7, 59) :: [(g4, q4, 59), (g3, q3, 59), (g2, qw, 59), (g1, qz, 59), (gxx, qx, 59), ((w.heap.size + 1), ptC false (.slice B1 m1 d1) (.slice B2 m2 d2) (.slice B3 m3 d3) (.slice B4 m4 d4), 61), (w.heap.size, ptC false (.slice A1 n1 c1) (.slice A2 n2 c2) (.slice A3 n3 c3) (.slice A4 n4 c4), 61)]) → (Instr.loadAt 59 (.pointer (some ⟨w.heap.size, 3, none⟩))).run Tryz.prog w' = .ok (.agg #[.slice A3 n3 c3, .slice A4 n4 c4]) w' from fun w' hw => (pt_at (show _ = some (Obj.cells (ptC false (.slice A1 n1 c1) (.slice A2 n2 c2) (.slice A3 n3 c3) (.slice A4 n4 c4)) 61 (0, 0)) from hw (w.heap.size, ptC false (.slice A1 n1 c1) (.slice A2 n2 c2) (.slice A3 n3 c3) (.slice A4 n4 c4), 61) (.tail _ (.tail _ (.tail _ (.tail _ (.tail _ (.tail _ (.tail _ (.head _)))))))))).y)
 refine sq_gok (S := fun w' => Held w' ((gX, q7, 59) :: [(g4, q4, 59), (g3, q3, 59), (g2, qw, 59), (g1, qz, 59), (gxx, qx, 59), ((w.heap.size + 1), ptC false (.slice B1 m1 d1) (.slice B2 m2 d2) (.slice B3 m3 d3) (.slice B4 m4 d4), 61), (w.heap.size, ptC false (.slice A1 n1 c1) (.slice A2 n2 c2) (.slice A3 n3 c3) (.slice A4 n4 c4), 61)])) [(true, 0), (true, 1), (true, 2), (true, 3), (true, 4), (true, 5), (true, 7), (true, 9), (true, 10), (true, 11), (false, 6), (false, 8), (false, 12), (true, 13), (false, 14)] HS0.out ?_
 refine sq_ldk (some 84) F7.out ?_
 refine sq_ldk (some 85) F4.out ?_
 refine sq_psk [(2, .pointer (some ⟨w.heap.size, 1, none⟩))] ?_
 refine sq_ldk (some 87) FXA.out ?_
 refine sq_ldk (some 88) F7.out ?_
 refine sq_psk [(5, .slice pA pn pc), (7, .slice pA pn pc), (9, .pointer (some ⟨w.heap.size, 3, none⟩))] ?_
 refine sq_ldk (some 94) FYA.out ?_
 refine sq_psk [(11, .slice pA pn pc)] ?_
 refine sq_ck (some 90) Tryz.func82 (lsub7_x (HXA.out.below HG0.out.b) R7.out (HP.out.below HG0.out.b) HI.out.1 (subP_in (Nat.lt_trans Nat.zero_lt_one HI.out.2.2.2.2.2) _ _) HI.out.2.2.2.2.1) ?_
 rintro e v1 ⟨y1, rfl, k8, bw1⟩
 obtain ⟨q8, rfl⟩ := k8.q
 have R8 := Lib.hid k8
 have R4 := Lib.hid (R4.out.below bw1)
 have R7 := Lib.hid (R7.out.below bw1)
 have HG1 := Lib.hid (HG0.out.on bw1)
 have HS1 := Lib.hid HG1.out.h
 refine ⟨_, rfl, HS1.out, ?_⟩
 refine sq_ck (some 92) Tryz.func63 (lmul7_x R4.out R8.out (HP.out.below HG1.out.b) iM.out (subP_in (Nat.lt_trans Nat.zero_lt_one HI.out.2.2.2.2.2) _ _) HI.out.2.2.2.2.1) ?_
 rintro e v2 ⟨y2, rfl, k9, bw2⟩
 obtain ⟨q9, rfl⟩ := k9.q
 have R9 := Lib.hid k9
 have R7 := Lib.hid (R7.out.below bw2)
 have HG2 := Lib.hid (HG1.out.on bw2)
 have HS2 := Lib.hid HG2.out.h
 refine ⟨_, rfl, HS2.out, ?_⟩
 refine sq_ck (some 96) Tryz.func82 (lsub7_x R9.out (HYA.out.below HG2.out.b) (HP.out.below HG2.out.b) (mulP_in (Nat.lt_trans Nat.zero_lt_one HI.out.2.2.2.2.2) _ _) HI.out.2.1 HI.out.2.2.2.2.1) ?_
 rintro e v3 ⟨y3, rfl, k10, bw3⟩
 have R7 := Lib.hid (R7.out.below bw3)
 have R10 := Lib.hid k10
 obtain ⟨ya, yb, rfl, t1, t2⟩ := k10
 obtain ⟨xa, xb, eX, t3, t4⟩ := R7.out
 obtain ⟨A5, n5, c5, rfl⟩ := t1.shape
 obtain ⟨A6, n6, c6, rfl⟩ := t2.shape
 obtain ⟨A7, n7, c7, rfl⟩ := t3.shape
 obtain ⟨A8, n8, c8, rfl⟩ := t4.shape
 injection eX with eX
 subst eX
 have HG3 := Lib.hid (HG2.out.on bw3)
 have HS3 := Lib.hid HG3.out.h
 refine ⟨_, rfl, HS3.out, ?_⟩
 refine sq_pure (some 97) (.agg (ptC false (.slice A7 n7 c7) (.slice A8 n8 c8) (.slice A5 n5 c5) (.slice A6 n6 c6))) (by kernel_rfl) (by kernel_rfl) (held_build 61 #[(1, (.tmp 84)), (2, (.tmp 96))] (by kernel_rfl) _ (by kernel_rfl) _ (built_10xy _ _ _ _)) ?_
 have HE := Lib.hid (HG3.out.put (show w.heap.size ≤ (w.heap.size + 1 + 1) by omega) (ptC false (.slice A7 n7 c7) (.slice A8 n8 c8) (.slice A5 n5 c5) (.slice A6 n6 c6)))
 refine sq_stk 61 (w.heap.size + 1 + 1) (ptC false (.slice A7 n7 c7) (.slice A8 n8 c8) (.slice A5 n5 c5) (.slice A6 n6 c6)) HG3.out.out Tryz.infoPt10 rfl (HS3.out.setRow HG3.out.ne) ?_
 refine sq_done ?_
 refine ‹∀ a w, Code.wp _ Code.ret _ a w → _› _ _ ?_
 refine wp_ret ?_
 exact bodyPost_ret (results_cell_row Tryz.results47 _ _ ((w.heap.size + 1 + 1)) _ _ _ _ (by kernel_rfl) HE.out.out Tryz.underlying61 rfl Tryz.infoPt10) (by kernel_rfl) ⟨_, rfl, by have eM := HM.out; subst eM; rw [← HR.out]; exact PtX.of (R7.out.setRow7 HG3.out.out) (R10.out.setRow7 HG3.out.out), HE.out.b⟩
theorem ladd10_none {w : World} {vp : Value} {A B : Pn × Pn} {A1 A2 A3 A4 B1 B2 B3 B4 : Option Addr} {n1 c1 n2 c2 n3 c3 n4 c4 m1 d1 m2 d2 m3 d3 m4 d4 : Nat} {n : Nat} (hA : PtX w (.agg (ptC false (.slice A1 n1 c1) (.slice A2 n2 c2) (.slice A3 n3 c3) (.slice A4 n4 c4))) (some A)) (hB : PtX w (.agg (ptC false (.slice B1 m1 d1) (.slice B2 m2 d2) (.slice B3 m3 d3) (.slice B4 m4 d4))) (some B)) (hp : RowX w vp n) (iA : InP2 n A.1 ∧ InP2 n A.2) (iB : InP2 n B.1 ∧ InP2 n B.2) (hn : n < GB) (h1 : 1 < n) (h : subP n B.1 A.1 = (0, 0)) (hy : A.2 = (0, 0) ∨ subP n B.2 A.2 ≠ (0, 0)) :
  Calls Tryz.prog 47 #[.agg (ptC false (.slice A1 n1 c1) (.slice A2 n2 c2) (.slice A3 n3 c3) (.slice A4 n4 c4)), .agg (ptC false (.slice B1 m1 d1) (.slice B2 m2 d2) (.slice B3 m3 d3) (.slice B4 m4 d4)), vp] w (PtTo none w) := by
 have HP := Lib.hid hp
 obtain ⟨pA, pn, pc, rfl⟩ := hp.shape
 obtain ⟨xA, yA⟩ := A
 obtain ⟨xB, yB⟩ := B
 have HXA := Lib.hid (PtX.pairs hA).2.1
 have HYA := Lib.hid (PtX.pairs hA).2.2
 have HXB := Lib.hid (PtX.pairs hB).2.1
 have HYB := Lib.hid (PtX.pairs hB).2.2
 have HI := Lib.hid (And.intro iA.1 (And.intro iA.2 (And.intro iB.1 (And.intro iB.2 (And.intro hn h1)))))
 have HZ := Lib.hid (decide_eq_true h)
 unfold PtTo
 by_cases h0 : yA = (0, 0)
 ·have HY0 := Lib.hid (decide_eq_true h0)
  simp only at HXA HYA HXB HYB HI HZ
  clear hy h0
  have HG0 := Lib.hid (begun3 (Held.none w) (ptC false (.slice A1 n1 c1) (.slice A2 n2 c2) (.slice A3 n3 c3) (.slice A4 n4 c4)) (ptC false (.slice B1 m1 d1) (.slice B2 m2 d2) (.slice B3 m3 d3) (.slice B4 m4 d4)) #[.bool false, .slice none 0 0, .slice none 0 0, .slice none 0 0, .slice none 0 0] 61 61 61)
  clear hp h iA iB hn h1 hA hB
  go_enter Tryz.func47, Tryz.ntmps47
  go_upto_region 1 with (fail)
  generalize ((w.alloc _).alloc _).alloc _ = w0 at *
  have HHB := Lib.hid (show _ = some (Obj.cells (ptC false (.slice B1 m1 d1) (.slice B2 m2 d2) (.slice B3 m3 d3) (.slice B4 m4 d4)) 61 (0, 0)) from HG0.out.h ((w.heap.size + 1), ptC false (.slice B1 m1 d1) (.slice B2 m2 d2) (.slice B3 m3 d3) (.slice B4 m4 d4), 61) (.head _))
  have HHA := Lib.hid (show _ = some (Obj.cells (ptC false (.slice A1 n1 c1) (.slice A2 n2 c2) (.slice A3 n3 c3) (.slice A4 n4 c4)) 61 (0, 0)) from HG0.out.h (w.heap.size, ptC false (.slice A1 n1 c1) (.slice A2 n2 c2) (.slice A3 n3 c3) (.slice A4 n4 c4), 61) (.tail _ (.head _)))
  have za := pt_z HHA.out
  have zb := pt_z HHB.out
  go_wp2_with (first | refine load_mid rfl (.tmp 20) rfl (w.heap.size + 1) 3 _ (.slice B3 m3 d3) (.slice B4 m4 d4) rfl HHB.out rfl rfl ?_ | refine load_mid rfl (.tmp 22) rfl w.heap.size 3 _ (.slice A3 n3 c3) (.slice A4 n4 c4) rfl HHA.out rfl rfl ?_)
  clear za zb
  refine (lsub7_x (HYB.out.below HG0.out.b) (HYA.out.below HG0.out.b) (HP.out.below HG0.out.b) HI.out.2.2.2.1 HI.out.2.1 HI.out.2.2.2.2.1).mono ?_
  rintro e w1 ⟨v1, rfl, k1, b1⟩
  obtain ⟨q1, rfl⟩ := k1.q
  have Zq1 := Lib.hid k1.arr
  have HG1 := Lib.hid (HG0.out.on b1)
  have HN1 := Lib.hid (heap_alloc_new w1 (.cells #[.slice none 0 0, .slice none 0 0] 59))
  have APq1 := Lib.hid HG1.out.h.apart
  have GEq1 := Lib.hid HG1.out.b.size
  have bu1 := below_setRow2 ((Below.refl w1.heap.size w1).alloc (Nat.le_refl _) (.cells #[.slice none 0 0, .slice none 0 0] 59)) (Nat.le_refl _) q1
  have HG2 := Lib.hid ((HG1.out.new #[.slice none 0 0, .slice none 0 0] 59).putAt HG1.out.b.size HG1.out.h.apart q1)
  have Rq1 := Lib.hid (k1.below bu1)
  clear k1 b1 bu1 HG0 HG1
  have HHnew := Lib.hid (show _ = some (Obj.cells (q1) 59 (0, 0)) from HG2.out.h (w1.heap.size, q1, 59) (.head _))
  have HHB := Lib.hid (show _ = some (Obj.cells (ptC false (.slice B1 m1 d1) (.slice B2 m2 d2) (.slice B3 m3 d3) (.slice B4 m4 d4)) 61 (0, 0)) from HG2.out.h ((w.heap.size + 1), ptC false (.slice B1 m1 d1) (.slice B2 m2 d2) (.slice B3 m3 d3) (.slice B4 m4 d4), 61) (.tail _ (.head _)))
  have HHA := Lib.hid (show _ = some (Obj.cells (ptC false (.slice A1 n1 c1) (.slice A2 n2 c2) (.slice A3 n3 c3) (.slice A4 n4 c4)) 61 (0, 0)) from HG2.out.h (w.heap.size, ptC false (.slice A1 n1 c1) (.slice A2 n2 c2) (.slice A3 n3 c3) (.slice A4 n4 c4), 61) (.tail _ (.tail _ (.head _))))
  go_wp2_with (first | refine store_v rfl 59 (.tmp 7) (.tmp 25) rfl w1.heap.size _ q1 rfl rfl HN1.out (by rw [Zq1.out.1]; exact Tryz.info7) (by rw [Zq1.out.1]; rfl) Zq1.out.2 ?_ | refine load_mid rfl (.tmp 26) rfl (w.heap.size + 1) 1 _ (.slice B1 m1 d1) (.slice B2 m2 d2) rfl HHB.out rfl rfl ?_ | refine load_mid rfl (.tmp 28) rfl w.heap.size 1 _ (.slice A1 n1 c1) (.slice A2 n2 c2) rfl HHA.out rfl rfl ?_)
  clear HN1
  generalize (w1.alloc _).setRow _ _ = u1 at *
  generalize w1.heap.size = g1 at *
  refine (lsub7_x (HXB.out.below HG2.out.b) (HXA.out.below HG2.out.b) (HP.out.below HG2.out.b) HI.out.2.2.1 HI.out.1 HI.out.2.2.2.2.1).mono ?_
  rintro e w2 ⟨v2, rfl, k2, b2⟩
  obtain ⟨q2, rfl⟩ := k2.q
  have Zq2 := Lib.hid k2.arr
  have HG3 := Lib.hid (HG2.out.on b2)
  have HN2 := Lib.hid (heap_alloc_new w2 (.cells #[.slice none 0 0, .slice none 0 0] 59))
  have APq2 := Lib.hid HG3.out.h.apart
  have GEq2 := Lib.hid HG3.out.b.size
  have bu2 := below_setRow2 ((Below.refl w2.heap.size w2).alloc (Nat.le_refl _) (.cells #[.slice none 0 0, .slice none 0 0] 59)) (Nat.le_refl _) q2
  have HG4 := Lib.hid ((HG3.out.new #[.slice none 0 0, .slice none 0 0] 59).putAt HG3.out.b.size HG3.out.h.apart q2)
  have Rq1 := Lib.hid ((Rq1.out.below b2).below bu2)
  have Rq2 := Lib.hid (k2.below bu2)
  clear k2 b2 bu2 HG2 HG3
  have HHnew := Lib.hid (show _ = some (Obj.cells (q2) 59 (0, 0)) from HG4.out.h (w2.heap.size, q2, 59) (.head _))
  have HHg1 := Lib.hid (show _ = some (Obj.cells (q1) 59 (0, 0)) from HG4.out.h (g1, q1, 59) (.tail _ (.head _)))
  have HHB := Lib.hid (show _ = some (Obj.cells (ptC false (.slice B1 m1 d1) (.slice B2 m2 d2) (.slice B3 m3 d3) (.slice B4 m4 d4)) 61 (0, 0)) from HG4.out.h ((w.heap.size + 1), ptC false (.slice B1 m1 d1) (.slice B2 m2 d2) (.slice B3 m3 d3) (.slice B4 m4 d4), 61) (.tail _ (.tail _ (.head _))))
  have HHA := Lib.hid (show _ = some (Obj.cells (ptC false (.slice A1 n1 c1) (.slice A2 n2 c2) (.slice A3 n3 c3) (.slice A4 n4 c4)) 61 (0, 0)) from HG4.out.h (w.heap.size, ptC false (.slice A1 n1 c1) (.slice A2 n2 c2) (.slice A3 n3 c3) (.slice A4 n4 c4), 61) (.tail _ (.tail _ (.tail _ (.head _)))))
  go_wp2_with (first | refine store_v rfl 59 (.tmp 8) (.tmp 31) rfl w2.heap.size _ q2 rfl rfl HN2.out (by rw [Zq2.out.1]; exact Tryz.info7) (by rw [Zq2.out.1]; rfl) Zq2.out.2 ?_ | refine load_v rfl 59 (.tmp 8) rfl w2.heap.size q2 rfl HHnew.out Tryz.underlying59 rfl (by rw [Zq2.out.1]; exact Tryz.info7) ?_)
  clear HN2
  generalize (w2.alloc _).setRow _ _ = u2 at *
  generalize w2.heap.size = g2 at *
  refine (lzero7_x Rq2.out).mono ?_
  rintro e w3 ⟨he, b3⟩
  rw [HZ.out] at he
  subst he
  have HG5 := Lib.hid (HG4.out.on b3)
  have Rq1 := Lib.hid (Rq1.out.below b3)
  have Rq2 := Lib.hid (Rq2.out.below b3)
  clear b3 HG4
  go_upto_region 8 with (fail)
  have FYA := Lib.hid (show ∀ w', Held w' [(g2, q2, 59), (g1, q1, 59), ((w.heap.size + 1), ptC false (.slice B1 m1 d1) (.slice B2 m2 d2) (.slice B3 m3 d3) (.slice B4 m4 d4), 61), (w.heap.size, ptC false (.slice A1 n1 c1) (.slice A2 n2 c2) (.slice A3 n3 c3) (.slice A4 n4 c4), 61)] → (Instr.loadAt 59 (.pointer (some ⟨w.heap.size, 3, none⟩))).run Tryz.prog w' = .ok (.agg #[.slice A3 n3 c3, .slice A4 n4 c4]) w' from fun w' hw => (pt_at (show _ = some (Obj.cells (ptC false (.slice A1 n1 c1) (.slice A2 n2 c2) (.slice A3 n3 c3) (.slice A4 n4 c4)) 61 (0, 0)) from hw (w.heap.size, ptC false (.slice A1 n1 c1) (.slice A2 n2 c2) (.slice A3 n3 c3) (.slice A4 n4 c4), 61) (.tail _ (.tail _ (.tail _ (.head _)))))).y)
  have F1 := Lib.hid (show ∀ w', Held w' [(g2, q2, 59), (g1, q1, 59), ((w.heap.size + 1), ptC false (.slice B1 m1 d1) (.slice B2 m2 d2) (.slice B3 m3 d3) (.slice B4 m4 d4), 61), (w.heap.size, ptC false (.slice A1 n1 c1) (.slice A2 n2 c2) (.slice A3 n3 c3) (.slice A4 n4 c4), 61)] → (Instr.loadAt 59 (.pointer (some ⟨g1, 0, none⟩))).run Tryz.prog w' = .ok (.agg q1) w' from fun w' hw => cells_load (show _ = some (Obj.cells (q1) 59 (0, 0)) from hw (g1, q1, 59) (.tail _ (.head _))) Tryz.underlying59 rfl (by rw [Zq1.out.1]; exact Tryz.info7))
  have HK5 := Lib.hid HG5.out.h
  have HGz := HG5
  have HSz := HK5
  refine wp_region_linek (S := fun w' => Held w' [(g2, q2, 59), (g1, q1, 59), ((w.heap.size + 1), ptC false (.slice B1 m1 d1) (.slice B2 m2 d2) (.slice B3 m3 d3) (.slice B4 m4 d4), 61), (w.heap.size, ptC false (.slice A1 n1 c1) (.slice A2 n2 c2) (.slice A3 n3 c3) (.slice A4 n4 c4), 61)]) [(true, 0), (true, 1), (false, 2), (true, 3), (true, 4), (true, 5), (true, 6), (true, 7)] HSz.out ?_
  refine SQ.out ?_
  refine g_psk [(0, .pointer (some ⟨w.heap.size, 3, none⟩))] ?_
  refine g_ldk (some 35) FYA.out ?_
  refine g_ck (some 36) Tryz.func83 (lzero7_x (HYA.out.below HGz.out.b)) ?_
  rintro e v1 ⟨he, bw1⟩
  rw [HY0.out] at he
  subst he
  have HGn := Lib.hid (HGz.out.on bw1)
  have HSn := Lib.hid HGn.out.h
  clear HGz HSz
  have HGz := HGn
  have HS1 := HSn
  have HSz := HSn
  have Rq1 := Lib.hid (Rq1.out.below bw1)
  have Rq2 := Lib.hid (Rq2.out.below bw1)
  refine ⟨_, rfl, HS1.out, ?_⟩
  refine g_psk [(3, .bool true)] ?_
  refine g_nok [4, 5, 6] ?_
  refine g_psk [(7, .bool true)] ?_
  refine g_normk { tmps := List.toArray (List.append [.agg (ptC false (.slice A1 n1 c1) (.slice A2 n2 c2) (.slice A3 n3 c3) (.slice A4 n4 c4)), .agg (ptC false (.slice B1 m1 d1) (.slice B2 m2 d2) (.slice B3 m3 d3) (.slice B4 m4 d4)), .slice pA pn pc, .pointer (some ⟨w.heap.size, 0, none⟩), .pointer (some ⟨(w.heap.size + 1), 0, none⟩), undef, .pointer (some ⟨(w.heap.size + 1 + 1), 0, none⟩), .pointer (some ⟨g1, 0, none⟩), .pointer (some ⟨g2, 0, none⟩), undef, undef, undef, undef, undef, .pointer (some ⟨w.heap.size, 0, none⟩), .bool false, undef, .pointer (some ⟨(w.heap.size + 1), 0, none⟩), .bool false, undef, .pointer (some ⟨(w.heap.size + 1), 3, none⟩), .agg #[.slice B3 m3 d3, .slice B4 m4 d4], .pointer (some ⟨w.heap.size, 3, none⟩), .agg #[.slice A3 n3 c3, .slice A4 n4 c4], .slice pA pn pc, .agg q1, .pointer (some ⟨(w.heap.size + 1), 1, none⟩), .agg #[.slice B1 m1 d1, .slice B2 m2 d2], .pointer (some ⟨w.heap.size, 1, none⟩), .agg #[.slice A1 n1 c1, .slice A2 n2 c2], .slice pA pn pc, .agg q2, .agg q2, .bool true, .pointer (some ⟨w.heap.size, 3, none⟩), .agg #[.slice A3 n3 c3, .slice A4 n4 c4], .bool true, .bool true, undef, undef] (List.append [undef, .bool true, undef, undef, undef, undef, undef, undef, undef, undef, undef, undef, undef, undef, undef, undef, undef, undef, undef, undef, undef, undef, undef, undef, undef, undef, undef, undef, undef, undef, undef, undef, undef, undef, undef, undef, undef, undef, undef, undef] ([undef, undef, undef, undef, undef, undef, undef, undef, undef, undef, undef, undef, undef, undef, undef, undef, undef, undef]))), defers := [] } ?_
  refine g_done ?_
  refine ‹∀ a w, Code.wp _ _ _ a w → _› _ _ ?_
  clear FYA F1
  have HG900 := HGz
  clear HGz
  have HHg2 := Lib.hid (show _ = some (Obj.cells (q2) 59 (0, 0)) from HG900.out.h (g2, q2, 59) (.head _))
  have HHg1 := Lib.hid (show _ = some (Obj.cells (q1) 59 (0, 0)) from HG900.out.h (g1, q1, 59) (.tail _ (.head _)))
  have HHB := Lib.hid (show _ = some (Obj.cells (ptC false (.slice B1 m1 d1) (.slice B2 m2 d2) (.slice B3 m3 d3) (.slice B4 m4 d4)) 61 (0, 0)) from HG900.out.h ((w.heap.size + 1), ptC false (.slice B1 m1 d1) (.slice B2 m2 d2) (.slice B3 m3 d3) (.slice B4 m4 d4), 61) (.tail _ (.tail _ (.head _))))
  have HHA := Lib.hid (show _ = some (Obj.cells (ptC false (.slice A1 n1 c1) (.slice A2 n2 c2) (.slice A3 n3 c3) (.slice A4 n4 c4)) 61 (0, 0)) from HG900.out.h (w.heap.size, ptC false (.slice A1 n1 c1) (.slice A2 n2 c2) (.slice A3 n3 c3) (.slice A4 n4 c4), 61) (.tail _ (.tail _ (.tail _ (.head _)))))
  have HE := Lib.hid (HG900.out.put (show w.heap.size ≤ (w.heap.size + 1 + 1) by omega) (ptC true (.slice none 0 0) (.slice none 0 0) (.slice none 0 0) (.slice none 0 0)))
  go_wp2_with (first | refine store_v rfl 61 (.tmp 6) (.tmp 42) rfl ((w.heap.size + 1 + 1)) _ (ptC true (.slice none 0 0) (.slice none 0 0) (.slice none 0 0) (.slice none 0 0)) rfl rfl HG900.out.out Tryz.infoPt10 rfl (by kernel_rfl) ?_)
  exact bodyPost_ret (results_cell_row Tryz.results47 _ _ ((w.heap.size + 1 + 1)) _ _ _ _ rfl HE.out.out Tryz.underlying61 rfl Tryz.infoPt10) rfl ⟨_, rfl, ⟨_, _, _, _, _, _, _, _, _, _, _, _, rfl⟩, HE.out.b⟩
 have HY0 := Lib.hid (decide_eq_false h0)
 have HAb := Lib.hid (decide_eq_false (show subP n yB yA ≠ (0, 0) from hy.resolve_left h0))
 simp only at HXA HYA HXB HYB HI HZ
 clear hy h0
 have HG0 := Lib.hid (begun3 (Held.none w) (ptC false (.slice A1 n1 c1) (.slice A2 n2 c2) (.slice A3 n3 c3) (.slice A4 n4 c4)) (ptC false (.slice B1 m1 d1) (.slice B2 m2 d2) (.slice B3 m3 d3) (.slice B4 m4 d4)) #[.bool false, .slice none 0 0, .slice none 0 0, .slice none 0 0, .slice none 0 0] 61 61 61)
 clear hp h iA iB hn h1 hA hB
 go_enter Tryz.func47, Tryz.ntmps47
 go_upto_region 1 with (fail)
 generalize ((w.alloc _).alloc _).alloc _ = w0 at *
 have HHB := Lib.hid (show _ = some (Obj.cells (ptC false (.slice B1 m1 d1) (.slice B2 m2 d2) (.slice B3 m3 d3) (.slice B4 m4 d4)) 61 (0, 0)) from HG0.out.h ((w.heap.size + 1), ptC false (.slice B1 m1 d1) (.slice B2 m2 d2) (.slice B3 m3 d3) (.slice B4 m4 d4), 61) (.head _))
 have HHA := Lib.hid (show _ = some (Obj.cells (ptC false (.slice A1 n1 c1) (.slice A2 n2 c2) (.slice A3 n3 c3) (.slice A4 n4 c4)) 61 (0, 0)) from HG0.out.h (w.heap.size, ptC false (.slice A1 n1 c1) (.slice A2 n2 c2) (.slice A3 n3 c3) (.slice A4 n4 c4), 61) (.tail _ (.head _)))
 have za := pt_z HHA.out
 have zb := pt_z HHB.out
 go_wp2_with (first | refine load_mid rfl (.tmp 20) rfl (w.heap.size + 1) 3 _ (.slice B3 m3 d3) (.slice B4 m4 d4) rfl HHB.out rfl rfl ?_ | refine load_mid rfl (.tmp 22) rfl w.heap.size 3 _ (.slice A3 n3 c3) (.slice A4 n4 c4) rfl HHA.out rfl rfl ?_)
 clear za zb
 refine (lsub7_x (HYB.out.below HG0.out.b) (HYA.out.below HG0.out.b) (HP.out.below HG0.out.b) HI.out.2.2.2.1 HI.out.2.1 HI.out.2.2.2.2.1).mono ?_
 rintro e w1 ⟨v1, rfl, k1, b1⟩
 obtain ⟨q1, rfl⟩ := k1.q
 have Zq1 := Lib.hid k1.arr
 have HG1 := Lib.hid (HG0.out.on b1)
 have HN1 := Lib.hid (heap_alloc_new w1 (.cells #[.slice none 0 0, .slice none 0 0] 59))
 have APq1 := Lib.hid HG1.out.h.apart
 have GEq1 := Lib.hid HG1.out.b.size
 have bu1 := below_setRow2 ((Below.refl w1.heap.size w1).alloc (Nat.le_refl _) (.cells #[.slice none 0 0, .slice none 0 0] 59)) (Nat.le_refl _) q1
 have HG2 := Lib.hid ((HG1.out.new #[.slice none 0 0, .slice none 0 0] 59).putAt HG1.out.b.size HG1.out.h.apart q1)
 have Rq1 := Lib.hid (k1.below bu1)
 clear k1 b1 bu1 HG0 HG1
 have HHnew := Lib.hid (show _ = some (Obj.cells (q1) 59 (0, 0)) from HG2.out.h (w1.heap.size, q1, 59) (.head _))
 have HHB := Lib.hid (show _ = some (Obj.cells (ptC false (.slice B1 m1 d1) (.slice B2 m2 d2) (.slice B3 m3 d3) (.slice B4 m4 d4)) 61 (0, 0)) from HG2.out.h ((w.heap.size + 1), ptC false (.slice B1 m1 d1) (.slice B2 m2 d2) (.slice B3 m3 d3) (.slice B4 m4 d4), 61) (.tail _ (.head _)))
 have HHA := Lib.hid (show _ = some (Obj.cells (ptC false (.slice A1 n1 c1) (.slice A2 n2 c2) (.slice A3 n3 c3) (.slice A4 n4 c4)) 61 (0, 0)) from HG2.out.h (w.heap.size, ptC false (.slice A1 n1 c1) (.slice A2 n2 c2) (.slice A3 n3 c3) (.slice A4 n4 c4), 61) (.tail _ (.tail _ (.head _))))
 go_wp2_with (first | refine store_v rfl 59 (.tmp 7) (.tmp 25) rfl w1.heap.size _ q1 rfl rfl HN1.out (by rw [Zq1.out.1]; exact Tryz.info7) (by rw [Zq1.out.1]; rfl) Zq1.out.2 ?_ | refine load_mid rfl (.tmp 26) rfl (w.heap.size + 1) 1 _ (.slice B1 m1 d1) (.slice B2 m2 d2) rfl HHB.out rfl rfl ?_ | refine load_mid rfl (.tmp 28) rfl w.heap.size 1 _ (.slice A1 n1 c1) (.slice A2 n2 c2) rfl HHA.out rfl rfl ?_)
 clear HN1
 generalize (w1.alloc _).setRow _ _ = u1 at *
 generalize w1.heap.size = g1 at *
 refine (lsub7_x (HXB.out.below HG2.out.b) (HXA.out.below HG2.out.b) (HP.out.below HG2.out.b) HI.out.2.2.1 HI.out.1 HI.out.2.2.2.2.1).mono ?_
 rintro e w2 ⟨v2, rfl, k2, b2⟩
 obtain ⟨q2, rfl⟩ := k2.q
 have Zq2 := Lib.hid k2.arr
 have HG3 := Lib.hid (HG2.out.on b2)
 have HN2 := Lib.hid (heap_alloc_new w2 (.cells #[.slice none 0 0, .slice none 0 0] 59))
 have APq2 := Lib.hid HG3.out.h.apart
 have GEq2 := Lib.hid HG3.out.b.size
 have bu2 := below_setRow2 ((Below.refl w2.heap.size w2).alloc (Nat.le_refl _) (.cells #[.slice none 0 0, .slice none 0 0] 59)) (Nat.le_refl _) q2
 have HG4 := Lib.hid ((HG3.out.new #[.slice none 0 0, .slice none 0 0] 59).putAt HG3.out.b.size HG3.out.h.apart q2)
 have Rq1 := Lib.hid ((Rq1.out.below b2).below bu2)
 have Rq2 := Lib.hid (k2.below bu2)
 clear k2 b2 bu2 HG2 HG3
 have HHnew := Lib.hid (show _ = some (Obj.cells (q2) 59 (0, 0)) from HG4.out.h (w2.heap.size, q2, 59) (.head _))
 have HHg1 := Lib.hid (show _ = some (Obj.cells (q1) 59 (0, 0)) from HG4.out.h (g1, q1, 59) (.tail _ (.head _)))
 have HHB := Lib.hid (show _ = some (Obj.cells (ptC false (.slice B1 m1 d1) (.slice B2 m2 d2) (.slice B3 m3 d3) (.slice B4 m4 d4)) 61 (0, 0)) from HG4.out.h ((w.heap.size + 1), ptC false (.slice B1 m1 d1) (.slice B2 m2 d2) (.slice B3 m3 d3) (.slice B4 m4 d4), 61) (.tail _ (.tail _ (.head _))))
 have HHA := Lib.hid (show _ = some (Obj.cells (ptC false (.slice A1 n1 c1) (.slice A2 n2 c2) (.slice A3 n3 c3) (.slice A4 n4 c4)) 61 (0, 0)) from HG4.out.h (w.heap.size, ptC false (.slice A1 n1 c1) (.slice A2 n2 c2) (.slice A3 n3 c3) (.slice A4 n4 c4), 61) (.tail _ (.tail _ (.tail _ (.head _)))))
 go_wp2_with (first | refine store_v rfl 59 (.tmp 8) (.tmp 31) rfl w2.heap.size _ q2 rfl rfl HN2.out (by rw [Zq2.out.1]; exact Tryz.info7) (by rw [Zq2.out.1]; rfl) Zq2.out.2 ?_ | refine load_v rfl 59 (.tmp 8) rfl w2.heap.size q2 rfl HHnew.out Tryz.underlying59 rfl (by rw [Zq2.out.1]; exact Tryz.info7) ?_)
 clear HN2
 generalize (w2.alloc _).setRow _ _ = u2 at *
 generalize w2.heap.size = g2 at *
 refine (lzero7_x Rq2.out).mono ?_
 rintro e w3 ⟨he, b3⟩
 rw [HZ.out] at he
 subst he
 have HG5 := Lib.hid (HG4.out.on b3)
 have Rq1 := Lib.hid (Rq1.out.below b3)
 have Rq2 := Lib.hid (Rq2.out.below b3)
 clear b3 HG4
 go_upto_region 8 with (fail)
 have FYA := Lib.hid (show ∀ w', Held w' [(g2, q2, 59), (g1, q1, 59), ((w.heap.size + 1), ptC false (.slice B1 m1 d1) (.slice B2 m2 d2) (.slice B3 m3 d3) (.slice B4 m4 d4), 61), (w.heap.size, ptC false (.slice A1 n1 c1) (.slice A2 n2 c2) (.slice A3 n3 c3) (.slice A4 n4 c4), 61)] → (Instr.loadAt 59 (.pointer (some ⟨w.heap.size, 3, none⟩))).run Tryz.prog w' = .ok (.agg #[.slice A3 n3 c3, .slice A4 n4 c4]) w' from fun w' hw => (pt_at (show _ = some (Obj.cells (ptC false (.slice A1 n1 c1) (.slice A2 n2 c2) (.slice A3 n3 c3) (.slice A4 n4 c4)) 61 (0, 0)) from hw (w.heap.size, ptC false (.slice A1 n1 c1) (.slice A2 n2 c2) (.slice A3 n3 c3) (.slice A4 n4 c4), 61) (.tail _ (.tail _ (.tail _ (.head _)))))).y)
 have F1 := Lib.hid (show ∀ w', Held w' [(g2, q2, 59), (g1, q1, 59), ((w.heap.size + 1), ptC false (.slice B1 m1 d1) (.slice B2 m2 d2) (.slice B3 m3 d3) (.slice B4 m4 d4), 61), (w.heap.size, ptC false (.slice A1 n1 c1) (.slice A2 n2 c2) (.slice A3 n3 c3) (.slice A4 n4 c4), 61)] → (Instr.loadAt 59 (.pointer (some ⟨g1, 0, none⟩))).run Tryz.prog w' = .ok (.agg q1) w' from fun w' hw => cells_load (show _ = some (Obj.cells (q1) 59 (0, 0)) from hw (g1, q1, 59) (.tail _ (.head _))) Tryz.underlying59 rfl (by rw [Zq1.out.1]; exact Tryz.info7))
 have HK5 := Lib.hid HG5.out.h
 have HGz := HG5
 have HSz := HK5
 refine wp_region_linek (S := fun w' => Held w' [(g2, q2, 59), (g1, q1, 59), ((w.heap.size + 1), ptC false (.slice B1 m1 d1) (.slice B2 m2 d2) (.slice B3 m3 d3) (.slice B4 m4 d4), 61), (w.heap.size, ptC false (.slice A1 n1 c1) (.slice A2 n2 c2) (.slice A3 n3 c3) (.slice A4 n4 c4), 61)]) [(true, 0), (true, 1), (false, 2), (true, 3), (true, 4), (false, 5), (true, 6), (true, 7)] HSz.out ?_
 refine SQ.out ?_
 refine g_psk [(0, .pointer (some ⟨w.heap.size, 3, none⟩))] ?_
 refine g_ldk (some 35) FYA.out ?_
 refine g_ck (some 36) Tryz.func83 (lzero7_x (HYA.out.below HGz.out.b)) ?_
 rintro e v1 ⟨he, bw1⟩
 rw [HY0.out] at he
 subst he
 have HGn := Lib.hid (HGz.out.on bw1)
 have HSn := Lib.hid HGn.out.h
 clear HGz HSz
 have HGz := HGn
 have HS1 := HSn
 have HSz := HSn
 have Rq1 := Lib.hid (Rq1.out.below bw1)
 have Rq2 := Lib.hid (Rq2.out.below bw1)
 refine ⟨_, rfl, HS1.out, ?_⟩
 refine g_psk [(3, .bool false)] ?_
 refine g_ldk (some 38) F1.out ?_
 refine g_ck (some 39) Tryz.func83 (lzero7_x Rq1.out) ?_
 rintro e v2 ⟨he, bw2⟩
 rw [HAb.out] at he
 subst he
 have HGn := Lib.hid (HGz.out.on bw2)
 have HSn := Lib.hid HGn.out.h
 clear HGz HSz
 have HGz := HGn
 have HS2 := HSn
 have HSz := HSn
 have Rq1 := Lib.hid (Rq1.out.below bw2)
 have Rq2 := Lib.hid (Rq2.out.below bw2)
 refine ⟨_, rfl, HS2.out, ?_⟩
 refine g_psk [(6, .bool true), (7, .bool true)] ?_
 refine g_normk { tmps := List.toArray (List.append [.agg (ptC false (.slice A1 n1 c1) (.slice A2 n2 c2) (.slice A3 n3 c3) (.slice A4 n4 c4)), .agg (ptC false (.slice B1 m1 d1) (.slice B2 m2 d2) (.slice B3 m3 d3) (.slice B4 m4 d4)), .slice pA pn pc, .pointer (some ⟨w.heap.size, 0, none⟩), .pointer (some ⟨(w.heap.size + 1), 0, none⟩), undef, .pointer (some ⟨(w.heap.size + 1 + 1), 0, none⟩), .pointer (some ⟨g1, 0, none⟩), .pointer (some ⟨g2, 0, none⟩), undef, undef, undef, undef, undef, .pointer (some ⟨w.heap.size, 0, none⟩), .bool false, undef, .pointer (some ⟨(w.heap.size + 1), 0, none⟩), .bool false, undef, .pointer (some ⟨(w.heap.size + 1), 3, none⟩), .agg #[.slice B3 m3 d3, .slice B4 m4 d4], .pointer (some ⟨w.heap.size, 3, none⟩), .agg #[.slice A3 n3 c3, .slice A4 n4 c4], .slice pA pn pc, .agg q1, .pointer (some ⟨(w.heap.size + 1), 1, none⟩), .agg #[.slice B1 m1 d1, .slice B2 m2 d2], .pointer (some ⟨w.heap.size, 1, none⟩), .agg #[.slice A1 n1 c1, .slice A2 n2 c2], .slice pA pn pc, .agg q2, .agg q2, .bool true, .pointer (some ⟨w.heap.size, 3, none⟩), .agg #[.slice A3 n3 c3, .slice A4 n4 c4], .bool false, .bool false, .agg q1, .bool false] (List.append [.bool true, .bool true, undef, undef, undef, undef, undef, undef, undef, undef, undef, undef, undef, undef, undef, undef, undef, undef, undef, undef, undef, undef, undef, undef, undef, undef, undef, undef, undef, undef, undef, undef, undef, undef, undef, undef, undef, undef, undef, undef] ([undef, undef, undef, undef, undef, undef, undef, undef, undef, undef, undef, undef, undef, undef, undef, undef, undef, undef]))), defers := [] } ?_
 refine g_done ?_
 refine ‹∀ a w, Code.wp _ _ _ a w → _› _ _ ?_
 clear FYA F1
 have HG900 := HGz
 clear HGz
 have HHg2 := Lib.hid (show _ = some (Obj.cells (q2) 59 (0, 0)) from HG900.out.h (g2, q2, 59) (.head _))
 have HHg1 := Lib.hid (show _ = some (Obj.cells (q1) 59 (0, 0)) from HG900.out.h (g1, q1, 59) (.tail _ (.head _)))
 have HHB := Lib.hid (show _ = some (Obj.cells (ptC false (.slice B1 m1 d1) (.slice B2 m2 d2) (.slice B3 m3 d3) (.slice B4 m4 d4)) 61 (0, 0)) from HG900.out.h ((w.heap.size + 1), ptC false (.slice B1 m1 d1) (.slice B2 m2 d2) (.slice B3 m3 d3) (.slice B4 m4 d4), 61) (.tail _ (.tail _ (.head _))))
 have HHA := Lib.hid (show _ = some (Obj.cells (ptC false (.slice A1 n1 c1) (.slice A2 n2 c2) (.slice A3 n3 c3) (.slice A4 n4 c4)) 61 (0, 0)) from HG900.out.h (w.heap.size, ptC false (.slice A1 n1 c1) (.slice A2 n2 c2) (.slice A3 n3 c3) (.slice A4 n4 c4), 61) (.tail _ (.tail _ (.tail _ (.head _)))))
 have HE := Lib.hid (HG900.out.put (show w.heap.size ≤ (w.heap.size + 1 + 1) by omega) (ptC true (.slice none 0 0) (.slice none 0 0) (.slice none 0 0) (.slice none 0 0)))
 go_wp2_with (first | refine store_v rfl 61 (.tmp 6) (.tmp 42) rfl ((w.heap.size + 1 + 1)) _ (ptC true (.slice none 0 0) (.slice none 0 0) (.slice none 0 0) (.slice none 0 0)) rfl rfl HG900.out.out Tryz.infoPt10 rfl (by kernel_rfl) ?_)
 exact bodyPost_ret (results_cell_row Tryz.results47 _ _ ((w.heap.size + 1 + 1)) _ _ _ _ rfl HE.out.out Tryz.underlying61 rfl Tryz.infoPt10) rfl ⟨_, rfl, ⟨_, _, _, _, _, _, _, _, _, _, _, _, rfl⟩, HE.out.b⟩
end Go.Proofs.YtdajgcgliidjbaaGreat

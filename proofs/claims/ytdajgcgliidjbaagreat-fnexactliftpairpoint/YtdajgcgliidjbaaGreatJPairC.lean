import Derived.Test.YtdajgcgliidjbaaGreatJPairM
import Derived.Test.YtdajgcgliidjbaaGreatSeqC
set_option maxRecDepth 8000
set_option maxHeartbeats 4000000
namespace Go.Proofs.YtdajgcgliidjbaaGreat
open Go.RowKit
theorem begun_g7 {w wc : World} {x y : Pt} (h : G7 w wc x y) : Begun w wc [(w.heap.size + 1, aggT y, 25), (w.heap.size, aggT x, 25)] (w.heap.size + 2) #[.string ⟨#[]⟩, .string ⟨#[]⟩] 25 := by
 refine ⟨((Held.none _).cons h.x).cons h.y, h.o, fun q hq => ?_, h.b⟩
 rcases List.mem_cons.1 hq with rfl | hq
 ·show w.heap.size + 1 ≠ w.heap.size + 2
  omega
 ·rcases List.mem_cons.1 hq with rfl | hq
  ·show w.heap.size ≠ w.heap.size + 2
   omega
  ·cases hq
def opsTwo (pos : String) : Array Oper := #[{ dst := some 21, op := Op.load 25 (Operand.tmp 3), type := 25, pos := pos, after := #[], guard := none }, { dst := some 22, op := Op.move (Operand.tmp 2), type := 9, pos := pos, after := #[], guard := none }, { dst := some 23, op := Op.call { callee := Callee.value (Operand.func 69), args := #[Operand.tmp 21, Operand.tmp 22], argTypes := #[25, 9] }, type := 104, pos := pos, after := #[{ on := 0, ground := Ground.data }, { on := 1, ground := Ground.data }], guard := none }, { dst := some 24, op := Op.load 25 (Operand.tmp 4), type := 25, pos := pos, after := #[], guard := none }, { dst := some 25, op := Op.move (Operand.tmp 2), type := 9, pos := pos, after := #[], guard := none }, { dst := some 26, op := Op.call { callee := Callee.value (Operand.func 69), args := #[Operand.tmp 24, Operand.tmp 25], argTypes := #[25, 9] }, type := 104, pos := pos, after := #[{ on := 3, ground := Ground.data }, { on := 4, ground := Ground.data }, { on := 2, ground := Ground.chain }], guard := none }, { dst := some 7, op := Op.alloc 104, type := 0, pos := pos, after := #[], guard := none }, { dst := some 8, op := Op.alloc 104, type := 0, pos := pos, after := #[], guard := none }, { dst := none, op := Op.store 104 (Operand.tmp 7) (Operand.tmp 23), type := 0, pos := pos, after := #[{ on := 6, ground := Ground.data }, { on := 2, ground := Ground.data }, { on := 5, ground := Ground.chain }, { on := 0, ground := Ground.phase }, { on := 1, ground := Ground.phase }, { on := 2, ground := Ground.phase }, { on := 3, ground := Ground.textOnly Departure.lateStores }, { on := 4, ground := Ground.textOnly Departure.lateStores }, { on := 5, ground := Ground.phase }, { on := 6, ground := Ground.phase }, { on := 7, ground := Ground.phase }], guard := none }, { dst := none, op := Op.store 104 (Operand.tmp 8) (Operand.tmp 26), type := 0, pos := pos, after := #[{ on := 7, ground := Ground.data }, { on := 5, ground := Ground.data }, { on := 8, ground := Ground.chain }, { on := 0, ground := Ground.phase }, { on := 1, ground := Ground.phase }, { on := 2, ground := Ground.phase }, { on := 3, ground := Ground.phase }, { on := 4, ground := Ground.phase }, { on := 5, ground := Ground.phase }, { on := 6, ground := Ground.phase }, { on := 7, ground := Ground.phase }, { on := 8, ground := Ground.phase }], guard := none }]
def iTwo : List OpI := [⟨0, some 21, [3]⟩, ⟨0, some 22, [2]⟩, ⟨3, some 23, [21, 22]⟩, ⟨0, some 24, [4]⟩, ⟨0, some 25, [2]⟩, ⟨28, some 26, [24, 25]⟩, ⟨0, some 7, []⟩, ⟨0, some 8, []⟩, ⟨231, none, [7, 23]⟩, ⟨511, none, [8, 26]⟩]
def TwoMade (x y : Pt) (p : ByteArray) (w : World) : Exit → Act → World → Prop := fun e a' w' => e = .normal ∧ ∃ (u21 u22 u23 u24 u25 u26 : Value) (g7 g8 : Nat) (p1 a1 b1 p2 a2 b2 : Rw), a' = { tmps := #[(.agg (aggT x)), (.agg (aggT y)), (.string p), (.pointer (some ⟨w.heap.size, 0, none⟩)), (.pointer (some ⟨(w.heap.size + 1), 0, none⟩)), undef, (.pointer (some ⟨(w.heap.size + 2), 0, none⟩)), (.pointer (some ⟨g7, 0, none⟩)), (.pointer (some ⟨g8, 0, none⟩)), undef, (.agg (aggT x)), (.string p), (.bool true), (.bool false), (.bool false), (.agg (aggT y)), (.string p), (.bool true), (.bool false), (.bool false), undef, u21, u22, u23, u24, u25, u26, undef, undef], defers := [] } ∧ Tri (gV p) (valP x) p1 a1 b1 ∧ Tri (gV p) (valP y) p2 a2 b2 ∧ Laid w w' g7 g8 (triC p1 a1 b1) (triC p2 a2 b2) 104 (w.heap.size + 2) #[.string ⟨#[]⟩, .string ⟨#[]⟩] 25
theorem two_made (id : Nat) (pos : String) (x y : Pt) (p : ByteArray) {w w2 : World} {ZT : Array Value} (hzt : ZT.size = 246) (HZT : ∀ w, (zeroValue 104).run Tryz.prog w = .ok (.agg ZT) w)
  (I1 : Hid (∀ w, Calls Tryz.prog 69 #[.agg (aggT x), .string p] w (TriPost (gV p) (valP x) w))) (I2 : Hid (∀ w, Calls Tryz.prog 69 #[.agg (aggT y), .string p] w (TriPost (gV p) (valP y) w)))
  (HG0 : Hid (Begun w w2.drew [(w.heap.size + 1, aggT y, 25), (w.heap.size, aggT x, 25)] (w.heap.size + 2) #[.string ⟨#[]⟩, .string ⟨#[]⟩] 25)) :
  (Code.region id (opsTwo pos) true).wp Tryz.prog (TwoMade x y p w) { tmps := #[(.agg (aggT x)), (.agg (aggT y)), (.string p), (.pointer (some ⟨w.heap.size, 0, none⟩)), (.pointer (some ⟨(w.heap.size + 1), 0, none⟩)), undef, (.pointer (some ⟨(w.heap.size + 2), 0, none⟩)), undef, undef, undef, (.agg (aggT x)), (.string p), (.bool true), (.bool false), (.bool false), (.agg (aggT y)), (.string p), (.bool true), (.bool false), (.bool false), undef, undef, undef, undef, undef, undef, undef, undef, undef], defers := [] } w2 := by
 have HZTs := Lib.hid hzt
 have FX := Lib.hid (show ∀ w', Held w' [(w.heap.size + 1, aggT y, 25), (w.heap.size, aggT x, 25)] → (Instr.loadAt 25 (.pointer (some ⟨w.heap.size, 0, none⟩))).run Tryz.prog w' = .ok (.agg (aggT x)) w' from fun w' hw => pair_load (hw _ (.tail _ (.head _))))
 have FY := Lib.hid (show ∀ w', Held w' [(w.heap.size + 1, aggT y, 25), (w.heap.size, aggT x, 25)] → (Instr.loadAt 25 (.pointer (some ⟨w.heap.size + 1, 0, none⟩))).run Tryz.prog w' = .ok (.agg (aggT y)) w' from fun w' hw => pair_load (hw _ (.head _)))
 have HS0 := Lib.hid HG0.out.h
 clear hzt
 unfold TwoMade
 refine m_begin (S := fun w' => Held w' [(w.heap.size + 1, aggT y, 25), (w.heap.size, aggT x, 25)]) (by kernel_rfl) 10 (by kernel_rfl) ?_
 change wpM _ _ _ _ _ _ _ _ w2.drew
 generalize World.drew w2 = w0 at *
 refine m_seqk (f := 6) iTwo [(true, 0), (true, 1), (true, 3), (true, 4)] 27 HS0.out ?_
 refine sq_ldk (some 21) FX.out ?_
 refine sq_psk [(1, .string p)] ?_
 refine sq_ldk (some 24) FY.out ?_
 refine sq_psk [(4, .string p)] ?_
 refine sq_done ?_
 refine m_waysk (f := 5) iTwo [2, 6, 7] ?_
 intro i hi
 rcases (by simpa using hi : i = 2 ∨ i = 6 ∨ i = 7) with rfl | rfl | rfl
 ·refine sq_ck (some 23) Tryz.func69 (I1.out _) ?_
  rintro e w1 ⟨p1, a1, b1, rfl, T1, bw1⟩
  have HG1 := Lib.hid (HG0.out.on bw1)
  have HS1 := Lib.hid HG1.out.h
  refine ⟨_, rfl, HS1.out, ?_⟩
  refine sq_done ?_
  refine m_maskk (M' := 31) ?_
  refine m_waysk (f := 4) iTwo [5, 6, 7] ?_
  intro i hi
  rcases (by simpa using hi : i = 5 ∨ i = 6 ∨ i = 7) with rfl | rfl | rfl
  ·refine sq_ck (some 26) Tryz.func69 (I2.out _) ?_
   rintro e w2 ⟨p2, a2, b2, rfl, T2, bw2⟩
   have HG2 := Lib.hid (HG1.out.on bw2)
   have HS2 := Lib.hid HG2.out.h
   refine ⟨_, rfl, HS2.out, ?_⟩
   refine sq_done ?_
   refine m_maskk (M' := 63) ?_
   refine m_waysk (f := 3) iTwo [6, 7] ?_
   intro i hi
   rcases (by simpa using hi : i = 6 ∨ i = 7) with rfl | rfl
   ·have HG3 := Lib.hid (HG2.out.new ZT 104)
    have HNA := Lib.hid HG2.out.h.apart
    have HLA := Lib.hid HG2.out.b.size
    have HOA := Lib.hid (HG3.out.ne _ (.head _))
    have HS3 := Lib.hid HG3.out.h.tail
    refine sq_allock (some 7) 104 ZT (HZT _) HS3.out ?_
    generalize w2.alloc (.cells ZT 104) = w3 at *
    obtain ⟨gA, hgA⟩ : ∃ g, w2.heap.size = g := ⟨_, rfl⟩
    rw [hgA] at HG3 HNA HLA HOA ⊢
    clear hgA
    refine sq_done ?_
    refine m_maskk (M' := 127) ?_
    refine m_seqk (f := 0) iTwo [(false, 7), (false, 8), (false, 9)] 1023 HS3.out ?_
    have HG4 := Lib.hid (HG3.out.new ZT 104)
    have HNB := Lib.hid HG3.out.h.apart
    have HLB := Lib.hid HG3.out.b.size
    have HOB := Lib.hid (HG4.out.ne _ (.head _))
    have HS4 := Lib.hid HG4.out.h.tail.tail
    refine sq_allock (some 8) 104 ZT (HZT _) HS4.out ?_
    generalize w3.alloc (.cells ZT 104) = w4 at *
    obtain ⟨gB, hgB⟩ : ∃ g, w3.heap.size = g := ⟨_, rfl⟩
    rw [hgB] at HG4 HNB HLB HOB ⊢
    clear hgB
    have HL := Lib.hid (two_put (g := gA) (g' := gB) (C := ZT) (t := 104) (HG4.out.h (gA, ZT, 104) (.tail _ (.head _))) (HG4.out.h (gB, ZT, 104) (.head _)) HS4.out HG4.out.out HG4.out.b HLA.out HLB.out (show gA ≠ gB from HNB.out (gA, ZT, 104) (.head _)) (show gA ≠ w.heap.size + 2 from HOA.out) (show gB ≠ w.heap.size + 2 from HOB.out) HNA.out (fun q hq => HNB.out q (.tail _ hq)) (triC p1 a1 b1) (triC p2 a2 b2))
    refine sq_st 104 gA (triC p1 a1 b1) (HG4.out.h (gA, ZT, 104) (.tail _ (.head _))) (by rw [T1.size]; exact Tryz.infoTri) (HZTs.out.trans T1.size.symm) (tri_one _ _ _) HL.out.1 (by kernel_rfl) ?_
    refine sq_st 104 gB (triC p2 a2 b2) HL.out.2.1 (by rw [T2.size]; exact Tryz.infoTri) (HZTs.out.trans T2.size.symm) (tri_one _ _ _) HL.out.2.2.1 (by kernel_rfl) ?_
    refine sq_done ?_
    refine m_donek iTwo { tmps := #[(.agg (aggT x)), (.agg (aggT y)), (.string p), (.pointer (some ⟨w.heap.size, 0, none⟩)), (.pointer (some ⟨(w.heap.size + 1), 0, none⟩)), undef, (.pointer (some ⟨(w.heap.size + 2), 0, none⟩)), (.pointer (some ⟨gA, 0, none⟩)), (.pointer (some ⟨gB, 0, none⟩)), undef, (.agg (aggT x)), (.string p), (.bool true), (.bool false), (.bool false), (.agg (aggT y)), (.string p), (.bool true), (.bool false), (.bool false), undef, (.agg (aggT x)), (.string p), (.agg (triC p1 a1 b1)), (.agg (aggT y)), (.string p), (.agg (triC p2 a2 b2)), undef, undef], defers := [] } ?_
    exact ⟨rfl, _, _, _, _, _, _, gA, gB, p1, a1, b1, p2, a2, b2, rfl, T1, T2, HL.out.2.2.2⟩
   ·have HG3 := Lib.hid (HG2.out.new ZT 104)
    have HNA := Lib.hid HG2.out.h.apart
    have HLA := Lib.hid HG2.out.b.size
    have HOA := Lib.hid (HG3.out.ne _ (.head _))
    have HS3 := Lib.hid HG3.out.h.tail
    refine sq_allock (some 8) 104 ZT (HZT _) HS3.out ?_
    generalize w2.alloc (.cells ZT 104) = w3 at *
    obtain ⟨gA, hgA⟩ : ∃ g, w2.heap.size = g := ⟨_, rfl⟩
    rw [hgA] at HG3 HNA HLA HOA ⊢
    clear hgA
    refine sq_done ?_
    refine m_maskk (M' := 191) ?_
    refine m_seqk (f := 0) iTwo [(false, 6), (false, 8), (false, 9)] 1023 HS3.out ?_
    have HG4 := Lib.hid (HG3.out.new ZT 104)
    have HNB := Lib.hid HG3.out.h.apart
    have HLB := Lib.hid HG3.out.b.size
    have HOB := Lib.hid (HG4.out.ne _ (.head _))
    have HS4 := Lib.hid HG4.out.h.tail.tail
    refine sq_allock (some 7) 104 ZT (HZT _) HS4.out ?_
    generalize w3.alloc (.cells ZT 104) = w4 at *
    obtain ⟨gB, hgB⟩ : ∃ g, w3.heap.size = g := ⟨_, rfl⟩
    rw [hgB] at HG4 HNB HLB HOB ⊢
    clear hgB
    have HL := Lib.hid (two_put (g := gB) (g' := gA) (C := ZT) (t := 104) (HG4.out.h (gB, ZT, 104) (.head _)) (HG4.out.h (gA, ZT, 104) (.tail _ (.head _))) HS4.out HG4.out.out HG4.out.b HLB.out HLA.out (Ne.symm (show gA ≠ gB from HNB.out (gA, ZT, 104) (.head _))) (show gB ≠ w.heap.size + 2 from HOB.out) (show gA ≠ w.heap.size + 2 from HOA.out) (fun q hq => HNB.out q (.tail _ hq)) HNA.out (triC p1 a1 b1) (triC p2 a2 b2))
    refine sq_st 104 gB (triC p1 a1 b1) (HG4.out.h (gB, ZT, 104) (.head _)) (by rw [T1.size]; exact Tryz.infoTri) (HZTs.out.trans T1.size.symm) (tri_one _ _ _) HL.out.1 (by kernel_rfl) ?_
    refine sq_st 104 gA (triC p2 a2 b2) HL.out.2.1 (by rw [T2.size]; exact Tryz.infoTri) (HZTs.out.trans T2.size.symm) (tri_one _ _ _) HL.out.2.2.1 (by kernel_rfl) ?_
    refine sq_done ?_
    refine m_donek iTwo { tmps := #[(.agg (aggT x)), (.agg (aggT y)), (.string p), (.pointer (some ⟨w.heap.size, 0, none⟩)), (.pointer (some ⟨(w.heap.size + 1), 0, none⟩)), undef, (.pointer (some ⟨(w.heap.size + 2), 0, none⟩)), (.pointer (some ⟨gB, 0, none⟩)), (.pointer (some ⟨gA, 0, none⟩)), undef, (.agg (aggT x)), (.string p), (.bool true), (.bool false), (.bool false), (.agg (aggT y)), (.string p), (.bool true), (.bool false), (.bool false), undef, (.agg (aggT x)), (.string p), (.agg (triC p1 a1 b1)), (.agg (aggT y)), (.string p), (.agg (triC p2 a2 b2)), undef, undef], defers := [] } ?_
    exact ⟨rfl, _, _, _, _, _, _, gB, gA, p1, a1, b1, p2, a2, b2, rfl, T1, T2, HL.out.2.2.2⟩
  ·have HG2 := Lib.hid (HG1.out.new ZT 104)
   have HNA := Lib.hid HG1.out.h.apart
   have HLA := Lib.hid HG1.out.b.size
   have HOA := Lib.hid (HG2.out.ne _ (.head _))
   have HS2 := Lib.hid HG2.out.h.tail
   refine sq_allock (some 7) 104 ZT (HZT _) HS2.out ?_
   generalize w1.alloc (.cells ZT 104) = w2 at *
   obtain ⟨gA, hgA⟩ : ∃ g, w1.heap.size = g := ⟨_, rfl⟩
   rw [hgA] at HG2 HNA HLA HOA ⊢
   clear hgA
   refine sq_done ?_
   refine m_maskk (M' := 95) ?_
   refine m_waysk (f := 3) iTwo [5, 7] ?_
   intro i hi
   rcases (by simpa using hi : i = 5 ∨ i = 7) with rfl | rfl
   ·refine sq_ck (some 26) Tryz.func69 (I2.out _) ?_
    rintro e w3 ⟨p2, a2, b2, rfl, T2, bw3⟩
    have HG3 := Lib.hid (HG2.out.on bw3)
    have HS3 := Lib.hid HG3.out.h.tail
    refine ⟨_, rfl, HS3.out, ?_⟩
    refine sq_done ?_
    refine m_maskk (M' := 127) ?_
    refine m_seqk (f := 0) iTwo [(false, 7), (false, 8), (false, 9)] 1023 HS3.out ?_
    have HG4 := Lib.hid (HG3.out.new ZT 104)
    have HNB := Lib.hid HG3.out.h.apart
    have HLB := Lib.hid HG3.out.b.size
    have HOB := Lib.hid (HG4.out.ne _ (.head _))
    have HS4 := Lib.hid HG4.out.h.tail.tail
    refine sq_allock (some 8) 104 ZT (HZT _) HS4.out ?_
    generalize w3.alloc (.cells ZT 104) = w4 at *
    obtain ⟨gB, hgB⟩ : ∃ g, w3.heap.size = g := ⟨_, rfl⟩
    rw [hgB] at HG4 HNB HLB HOB ⊢
    clear hgB
    have HL := Lib.hid (two_put (g := gA) (g' := gB) (C := ZT) (t := 104) (HG4.out.h (gA, ZT, 104) (.tail _ (.head _))) (HG4.out.h (gB, ZT, 104) (.head _)) HS4.out HG4.out.out HG4.out.b HLA.out HLB.out (show gA ≠ gB from HNB.out (gA, ZT, 104) (.head _)) (show gA ≠ w.heap.size + 2 from HOA.out) (show gB ≠ w.heap.size + 2 from HOB.out) HNA.out (fun q hq => HNB.out q (.tail _ hq)) (triC p1 a1 b1) (triC p2 a2 b2))
    refine sq_st 104 gA (triC p1 a1 b1) (HG4.out.h (gA, ZT, 104) (.tail _ (.head _))) (by rw [T1.size]; exact Tryz.infoTri) (HZTs.out.trans T1.size.symm) (tri_one _ _ _) HL.out.1 (by kernel_rfl) ?_
    refine sq_st 104 gB (triC p2 a2 b2) HL.out.2.1 (by rw [T2.size]; exact Tryz.infoTri) (HZTs.out.trans T2.size.symm) (tri_one _ _ _) HL.out.2.2.1 (by kernel_rfl) ?_
    refine sq_done ?_
    refine m_donek iTwo { tmps := #[(.agg (aggT x)), (.agg (aggT y)), (.string p), (.pointer (some ⟨w.heap.size, 0, none⟩)), (.pointer (some ⟨(w.heap.size + 1), 0, none⟩)), undef, (.pointer (some ⟨(w.heap.size + 2), 0, none⟩)), (.pointer (some ⟨gA, 0, none⟩)), (.pointer (some ⟨gB, 0, none⟩)), undef, (.agg (aggT x)), (.string p), (.bool true), (.bool false), (.bool false), (.agg (aggT y)), (.string p), (.bool true), (.bool false), (.bool false), undef, (.agg (aggT x)), (.string p), (.agg (triC p1 a1 b1)), (.agg (aggT y)), (.string p), (.agg (triC p2 a2 b2)), undef, undef], defers := [] } ?_
    exact ⟨rfl, _, _, _, _, _, _, gA, gB, p1, a1, b1, p2, a2, b2, rfl, T1, T2, HL.out.2.2.2⟩
   ·have HG3 := Lib.hid (HG2.out.new ZT 104)
    have HNB := Lib.hid HG2.out.h.apart
    have HLB := Lib.hid HG2.out.b.size
    have HOB := Lib.hid (HG3.out.ne _ (.head _))
    have HS3 := Lib.hid HG3.out.h.tail.tail
    refine sq_allock (some 8) 104 ZT (HZT _) HS3.out ?_
    generalize w2.alloc (.cells ZT 104) = w3 at *
    obtain ⟨gB, hgB⟩ : ∃ g, w2.heap.size = g := ⟨_, rfl⟩
    rw [hgB] at HG3 HNB HLB HOB ⊢
    clear hgB
    refine sq_done ?_
    refine m_maskk (M' := 223) ?_
    refine m_seqk (f := 0) iTwo [(false, 5), (false, 8), (false, 9)] 1023 HS3.out ?_
    refine sq_ck (some 26) Tryz.func69 (I2.out _) ?_
    rintro e w4 ⟨p2, a2, b2, rfl, T2, bw4⟩
    have HG4 := Lib.hid (HG3.out.on bw4)
    have HS4 := Lib.hid HG4.out.h.tail.tail
    refine ⟨_, rfl, HS4.out, ?_⟩
    have HL := Lib.hid (two_put (g := gA) (g' := gB) (C := ZT) (t := 104) (HG4.out.h (gA, ZT, 104) (.tail _ (.head _))) (HG4.out.h (gB, ZT, 104) (.head _)) HS4.out HG4.out.out HG4.out.b HLA.out HLB.out (show gA ≠ gB from HNB.out (gA, ZT, 104) (.head _)) (show gA ≠ w.heap.size + 2 from HOA.out) (show gB ≠ w.heap.size + 2 from HOB.out) HNA.out (fun q hq => HNB.out q (.tail _ hq)) (triC p1 a1 b1) (triC p2 a2 b2))
    refine sq_st 104 gA (triC p1 a1 b1) (HG4.out.h (gA, ZT, 104) (.tail _ (.head _))) (by rw [T1.size]; exact Tryz.infoTri) (HZTs.out.trans T1.size.symm) (tri_one _ _ _) HL.out.1 (by kernel_rfl) ?_
    refine sq_st 104 gB (triC p2 a2 b2) HL.out.2.1 (by rw [T2.size]; exact Tryz.infoTri) (HZTs.out.trans T2.size.symm) (tri_one _ _ _) HL.out.2.2.1 (by kernel_rfl) ?_
    refine sq_done ?_
    refine m_donek iTwo { tmps := #[(.agg (aggT x)), (.agg (aggT y)), (.string p), (.pointer (some ⟨w.heap.size, 0, none⟩)), (.pointer (some ⟨(w.heap.size + 1), 0, none⟩)), undef, (.pointer (some ⟨(w.heap.size + 2), 0, none⟩)), (.pointer (some ⟨gA, 0, none⟩)), (.pointer (some ⟨gB, 0, none⟩)), undef, (.agg (aggT x)), (.string p), (.bool true), (.bool false), (.bool false), (.agg (aggT y)), (.string p), (.bool true), (.bool false), (.bool false), undef, (.agg (aggT x)), (.string p), (.agg (triC p1 a1 b1)), (.agg (aggT y)), (.string p), (.agg (triC p2 a2 b2)), undef, undef], defers := [] } ?_
    exact ⟨rfl, _, _, _, _, _, _, gA, gB, p1, a1, b1, p2, a2, b2, rfl, T1, T2, HL.out.2.2.2⟩
  ·have HG2 := Lib.hid (HG1.out.new ZT 104)
   have HNA := Lib.hid HG1.out.h.apart
   have HLA := Lib.hid HG1.out.b.size
   have HOA := Lib.hid (HG2.out.ne _ (.head _))
   have HS2 := Lib.hid HG2.out.h.tail
   refine sq_allock (some 8) 104 ZT (HZT _) HS2.out ?_
   generalize w1.alloc (.cells ZT 104) = w2 at *
   obtain ⟨gA, hgA⟩ : ∃ g, w1.heap.size = g := ⟨_, rfl⟩
   rw [hgA] at HG2 HNA HLA HOA ⊢
   clear hgA
   refine sq_done ?_
   refine m_maskk (M' := 159) ?_
   refine m_waysk (f := 3) iTwo [5, 6] ?_
   intro i hi
   rcases (by simpa using hi : i = 5 ∨ i = 6) with rfl | rfl
   ·refine sq_ck (some 26) Tryz.func69 (I2.out _) ?_
    rintro e w3 ⟨p2, a2, b2, rfl, T2, bw3⟩
    have HG3 := Lib.hid (HG2.out.on bw3)
    have HS3 := Lib.hid HG3.out.h.tail
    refine ⟨_, rfl, HS3.out, ?_⟩
    refine sq_done ?_
    refine m_maskk (M' := 191) ?_
    refine m_seqk (f := 0) iTwo [(false, 6), (false, 8), (false, 9)] 1023 HS3.out ?_
    have HG4 := Lib.hid (HG3.out.new ZT 104)
    have HNB := Lib.hid HG3.out.h.apart
    have HLB := Lib.hid HG3.out.b.size
    have HOB := Lib.hid (HG4.out.ne _ (.head _))
    have HS4 := Lib.hid HG4.out.h.tail.tail
    refine sq_allock (some 7) 104 ZT (HZT _) HS4.out ?_
    generalize w3.alloc (.cells ZT 104) = w4 at *
    obtain ⟨gB, hgB⟩ : ∃ g, w3.heap.size = g := ⟨_, rfl⟩
    rw [hgB] at HG4 HNB HLB HOB ⊢
    clear hgB
    have HL := Lib.hid (two_put (g := gB) (g' := gA) (C := ZT) (t := 104) (HG4.out.h (gB, ZT, 104) (.head _)) (HG4.out.h (gA, ZT, 104) (.tail _ (.head _))) HS4.out HG4.out.out HG4.out.b HLB.out HLA.out (Ne.symm (show gA ≠ gB from HNB.out (gA, ZT, 104) (.head _))) (show gB ≠ w.heap.size + 2 from HOB.out) (show gA ≠ w.heap.size + 2 from HOA.out) (fun q hq => HNB.out q (.tail _ hq)) HNA.out (triC p1 a1 b1) (triC p2 a2 b2))
    refine sq_st 104 gB (triC p1 a1 b1) (HG4.out.h (gB, ZT, 104) (.head _)) (by rw [T1.size]; exact Tryz.infoTri) (HZTs.out.trans T1.size.symm) (tri_one _ _ _) HL.out.1 (by kernel_rfl) ?_
    refine sq_st 104 gA (triC p2 a2 b2) HL.out.2.1 (by rw [T2.size]; exact Tryz.infoTri) (HZTs.out.trans T2.size.symm) (tri_one _ _ _) HL.out.2.2.1 (by kernel_rfl) ?_
    refine sq_done ?_
    refine m_donek iTwo { tmps := #[(.agg (aggT x)), (.agg (aggT y)), (.string p), (.pointer (some ⟨w.heap.size, 0, none⟩)), (.pointer (some ⟨(w.heap.size + 1), 0, none⟩)), undef, (.pointer (some ⟨(w.heap.size + 2), 0, none⟩)), (.pointer (some ⟨gB, 0, none⟩)), (.pointer (some ⟨gA, 0, none⟩)), undef, (.agg (aggT x)), (.string p), (.bool true), (.bool false), (.bool false), (.agg (aggT y)), (.string p), (.bool true), (.bool false), (.bool false), undef, (.agg (aggT x)), (.string p), (.agg (triC p1 a1 b1)), (.agg (aggT y)), (.string p), (.agg (triC p2 a2 b2)), undef, undef], defers := [] } ?_
    exact ⟨rfl, _, _, _, _, _, _, gB, gA, p1, a1, b1, p2, a2, b2, rfl, T1, T2, HL.out.2.2.2⟩
   ·have HG3 := Lib.hid (HG2.out.new ZT 104)
    have HNB := Lib.hid HG2.out.h.apart
    have HLB := Lib.hid HG2.out.b.size
    have HOB := Lib.hid (HG3.out.ne _ (.head _))
    have HS3 := Lib.hid HG3.out.h.tail.tail
    refine sq_allock (some 7) 104 ZT (HZT _) HS3.out ?_
    generalize w2.alloc (.cells ZT 104) = w3 at *
    obtain ⟨gB, hgB⟩ : ∃ g, w2.heap.size = g := ⟨_, rfl⟩
    rw [hgB] at HG3 HNB HLB HOB ⊢
    clear hgB
    refine sq_done ?_
    refine m_maskk (M' := 223) ?_
    refine m_seqk (f := 0) iTwo [(false, 5), (false, 8), (false, 9)] 1023 HS3.out ?_
    refine sq_ck (some 26) Tryz.func69 (I2.out _) ?_
    rintro e w4 ⟨p2, a2, b2, rfl, T2, bw4⟩
    have HG4 := Lib.hid (HG3.out.on bw4)
    have HS4 := Lib.hid HG4.out.h.tail.tail
    refine ⟨_, rfl, HS4.out, ?_⟩
    have HL := Lib.hid (two_put (g := gB) (g' := gA) (C := ZT) (t := 104) (HG4.out.h (gB, ZT, 104) (.head _)) (HG4.out.h (gA, ZT, 104) (.tail _ (.head _))) HS4.out HG4.out.out HG4.out.b HLB.out HLA.out (Ne.symm (show gA ≠ gB from HNB.out (gA, ZT, 104) (.head _))) (show gB ≠ w.heap.size + 2 from HOB.out) (show gA ≠ w.heap.size + 2 from HOA.out) (fun q hq => HNB.out q (.tail _ hq)) HNA.out (triC p1 a1 b1) (triC p2 a2 b2))
    refine sq_st 104 gB (triC p1 a1 b1) (HG4.out.h (gB, ZT, 104) (.head _)) (by rw [T1.size]; exact Tryz.infoTri) (HZTs.out.trans T1.size.symm) (tri_one _ _ _) HL.out.1 (by kernel_rfl) ?_
    refine sq_st 104 gA (triC p2 a2 b2) HL.out.2.1 (by rw [T2.size]; exact Tryz.infoTri) (HZTs.out.trans T2.size.symm) (tri_one _ _ _) HL.out.2.2.1 (by kernel_rfl) ?_
    refine sq_done ?_
    refine m_donek iTwo { tmps := #[(.agg (aggT x)), (.agg (aggT y)), (.string p), (.pointer (some ⟨w.heap.size, 0, none⟩)), (.pointer (some ⟨(w.heap.size + 1), 0, none⟩)), undef, (.pointer (some ⟨(w.heap.size + 2), 0, none⟩)), (.pointer (some ⟨gB, 0, none⟩)), (.pointer (some ⟨gA, 0, none⟩)), undef, (.agg (aggT x)), (.string p), (.bool true), (.bool false), (.bool false), (.agg (aggT y)), (.string p), (.bool true), (.bool false), (.bool false), undef, (.agg (aggT x)), (.string p), (.agg (triC p1 a1 b1)), (.agg (aggT y)), (.string p), (.agg (triC p2 a2 b2)), undef, undef], defers := [] } ?_
    exact ⟨rfl, _, _, _, _, _, _, gB, gA, p1, a1, b1, p2, a2, b2, rfl, T1, T2, HL.out.2.2.2⟩
 ·have HG1 := Lib.hid (HG0.out.new ZT 104)
  have HNA := Lib.hid HG0.out.h.apart
  have HLA := Lib.hid HG0.out.b.size
  have HOA := Lib.hid (HG1.out.ne _ (.head _))
  have HS1 := Lib.hid HG1.out.h.tail
  refine sq_allock (some 7) 104 ZT (HZT _) HS1.out ?_
  generalize w0.alloc (.cells ZT 104) = w1 at *
  obtain ⟨gA, hgA⟩ : ∃ g, w0.heap.size = g := ⟨_, rfl⟩
  rw [hgA] at HG1 HNA HLA HOA ⊢
  clear hgA
  refine sq_done ?_
  refine m_maskk (M' := 91) ?_
  refine m_waysk (f := 4) iTwo [2, 7] ?_
  intro i hi
  rcases (by simpa using hi : i = 2 ∨ i = 7) with rfl | rfl
  ·refine sq_ck (some 23) Tryz.func69 (I1.out _) ?_
   rintro e w2 ⟨p1, a1, b1, rfl, T1, bw2⟩
   have HG2 := Lib.hid (HG1.out.on bw2)
   have HS2 := Lib.hid HG2.out.h.tail
   refine ⟨_, rfl, HS2.out, ?_⟩
   refine sq_done ?_
   refine m_maskk (M' := 95) ?_
   refine m_waysk (f := 3) iTwo [5, 7] ?_
   intro i hi
   rcases (by simpa using hi : i = 5 ∨ i = 7) with rfl | rfl
   ·refine sq_ck (some 26) Tryz.func69 (I2.out _) ?_
    rintro e w3 ⟨p2, a2, b2, rfl, T2, bw3⟩
    have HG3 := Lib.hid (HG2.out.on bw3)
    have HS3 := Lib.hid HG3.out.h.tail
    refine ⟨_, rfl, HS3.out, ?_⟩
    refine sq_done ?_
    refine m_maskk (M' := 127) ?_
    refine m_seqk (f := 0) iTwo [(false, 7), (false, 8), (false, 9)] 1023 HS3.out ?_
    have HG4 := Lib.hid (HG3.out.new ZT 104)
    have HNB := Lib.hid HG3.out.h.apart
    have HLB := Lib.hid HG3.out.b.size
    have HOB := Lib.hid (HG4.out.ne _ (.head _))
    have HS4 := Lib.hid HG4.out.h.tail.tail
    refine sq_allock (some 8) 104 ZT (HZT _) HS4.out ?_
    generalize w3.alloc (.cells ZT 104) = w4 at *
    obtain ⟨gB, hgB⟩ : ∃ g, w3.heap.size = g := ⟨_, rfl⟩
    rw [hgB] at HG4 HNB HLB HOB ⊢
    clear hgB
    have HL := Lib.hid (two_put (g := gA) (g' := gB) (C := ZT) (t := 104) (HG4.out.h (gA, ZT, 104) (.tail _ (.head _))) (HG4.out.h (gB, ZT, 104) (.head _)) HS4.out HG4.out.out HG4.out.b HLA.out HLB.out (show gA ≠ gB from HNB.out (gA, ZT, 104) (.head _)) (show gA ≠ w.heap.size + 2 from HOA.out) (show gB ≠ w.heap.size + 2 from HOB.out) HNA.out (fun q hq => HNB.out q (.tail _ hq)) (triC p1 a1 b1) (triC p2 a2 b2))
    refine sq_st 104 gA (triC p1 a1 b1) (HG4.out.h (gA, ZT, 104) (.tail _ (.head _))) (by rw [T1.size]; exact Tryz.infoTri) (HZTs.out.trans T1.size.symm) (tri_one _ _ _) HL.out.1 (by kernel_rfl) ?_
    refine sq_st 104 gB (triC p2 a2 b2) HL.out.2.1 (by rw [T2.size]; exact Tryz.infoTri) (HZTs.out.trans T2.size.symm) (tri_one _ _ _) HL.out.2.2.1 (by kernel_rfl) ?_
    refine sq_done ?_
    refine m_donek iTwo { tmps := #[(.agg (aggT x)), (.agg (aggT y)), (.string p), (.pointer (some ⟨w.heap.size, 0, none⟩)), (.pointer (some ⟨(w.heap.size + 1), 0, none⟩)), undef, (.pointer (some ⟨(w.heap.size + 2), 0, none⟩)), (.pointer (some ⟨gA, 0, none⟩)), (.pointer (some ⟨gB, 0, none⟩)), undef, (.agg (aggT x)), (.string p), (.bool true), (.bool false), (.bool false), (.agg (aggT y)), (.string p), (.bool true), (.bool false), (.bool false), undef, (.agg (aggT x)), (.string p), (.agg (triC p1 a1 b1)), (.agg (aggT y)), (.string p), (.agg (triC p2 a2 b2)), undef, undef], defers := [] } ?_
    exact ⟨rfl, _, _, _, _, _, _, gA, gB, p1, a1, b1, p2, a2, b2, rfl, T1, T2, HL.out.2.2.2⟩
   ·have HG3 := Lib.hid (HG2.out.new ZT 104)
    have HNB := Lib.hid HG2.out.h.apart
    have HLB := Lib.hid HG2.out.b.size
    have HOB := Lib.hid (HG3.out.ne _ (.head _))
    have HS3 := Lib.hid HG3.out.h.tail.tail
    refine sq_allock (some 8) 104 ZT (HZT _) HS3.out ?_
    generalize w2.alloc (.cells ZT 104) = w3 at *
    obtain ⟨gB, hgB⟩ : ∃ g, w2.heap.size = g := ⟨_, rfl⟩
    rw [hgB] at HG3 HNB HLB HOB ⊢
    clear hgB
    refine sq_done ?_
    refine m_maskk (M' := 223) ?_
    refine m_seqk (f := 0) iTwo [(false, 5), (false, 8), (false, 9)] 1023 HS3.out ?_
    refine sq_ck (some 26) Tryz.func69 (I2.out _) ?_
    rintro e w4 ⟨p2, a2, b2, rfl, T2, bw4⟩
    have HG4 := Lib.hid (HG3.out.on bw4)
    have HS4 := Lib.hid HG4.out.h.tail.tail
    refine ⟨_, rfl, HS4.out, ?_⟩
    have HL := Lib.hid (two_put (g := gA) (g' := gB) (C := ZT) (t := 104) (HG4.out.h (gA, ZT, 104) (.tail _ (.head _))) (HG4.out.h (gB, ZT, 104) (.head _)) HS4.out HG4.out.out HG4.out.b HLA.out HLB.out (show gA ≠ gB from HNB.out (gA, ZT, 104) (.head _)) (show gA ≠ w.heap.size + 2 from HOA.out) (show gB ≠ w.heap.size + 2 from HOB.out) HNA.out (fun q hq => HNB.out q (.tail _ hq)) (triC p1 a1 b1) (triC p2 a2 b2))
    refine sq_st 104 gA (triC p1 a1 b1) (HG4.out.h (gA, ZT, 104) (.tail _ (.head _))) (by rw [T1.size]; exact Tryz.infoTri) (HZTs.out.trans T1.size.symm) (tri_one _ _ _) HL.out.1 (by kernel_rfl) ?_
    refine sq_st 104 gB (triC p2 a2 b2) HL.out.2.1 (by rw [T2.size]; exact Tryz.infoTri) (HZTs.out.trans T2.size.symm) (tri_one _ _ _) HL.out.2.2.1 (by kernel_rfl) ?_
    refine sq_done ?_
    refine m_donek iTwo { tmps := #[(.agg (aggT x)), (.agg (aggT y)), (.string p), (.pointer (some ⟨w.heap.size, 0, none⟩)), (.pointer (some ⟨(w.heap.size + 1), 0, none⟩)), undef, (.pointer (some ⟨(w.heap.size + 2), 0, none⟩)), (.pointer (some ⟨gA, 0, none⟩)), (.pointer (some ⟨gB, 0, none⟩)), undef, (.agg (aggT x)), (.string p), (.bool true), (.bool false), (.bool false), (.agg (aggT y)), (.string p), (.bool true), (.bool false), (.bool false), undef, (.agg (aggT x)), (.string p), (.agg (triC p1 a1 b1)), (.agg (aggT y)), (.string p), (.agg (triC p2 a2 b2)), undef, undef], defers := [] } ?_
    exact ⟨rfl, _, _, _, _, _, _, gA, gB, p1, a1, b1, p2, a2, b2, rfl, T1, T2, HL.out.2.2.2⟩
  ·have HG2 := Lib.hid (HG1.out.new ZT 104)
   have HNB := Lib.hid HG1.out.h.apart
   have HLB := Lib.hid HG1.out.b.size
   have HOB := Lib.hid (HG2.out.ne _ (.head _))
   have HS2 := Lib.hid HG2.out.h.tail.tail
   refine sq_allock (some 8) 104 ZT (HZT _) HS2.out ?_
   generalize w1.alloc (.cells ZT 104) = w2 at *
   obtain ⟨gB, hgB⟩ : ∃ g, w1.heap.size = g := ⟨_, rfl⟩
   rw [hgB] at HG2 HNB HLB HOB ⊢
   clear hgB
   refine sq_done ?_
   refine m_maskk (M' := 219) ?_
   refine m_seqk (f := 0) iTwo [(false, 2), (false, 5), (false, 8), (false, 9)] 1023 HS2.out ?_
   refine sq_ck (some 23) Tryz.func69 (I1.out _) ?_
   rintro e w3 ⟨p1, a1, b1, rfl, T1, bw3⟩
   have HG3 := Lib.hid (HG2.out.on bw3)
   have HS3 := Lib.hid HG3.out.h.tail.tail
   refine ⟨_, rfl, HS3.out, ?_⟩
   refine sq_ck (some 26) Tryz.func69 (I2.out _) ?_
   rintro e w4 ⟨p2, a2, b2, rfl, T2, bw4⟩
   have HG4 := Lib.hid (HG3.out.on bw4)
   have HS4 := Lib.hid HG4.out.h.tail.tail
   refine ⟨_, rfl, HS4.out, ?_⟩
   have HL := Lib.hid (two_put (g := gA) (g' := gB) (C := ZT) (t := 104) (HG4.out.h (gA, ZT, 104) (.tail _ (.head _))) (HG4.out.h (gB, ZT, 104) (.head _)) HS4.out HG4.out.out HG4.out.b HLA.out HLB.out (show gA ≠ gB from HNB.out (gA, ZT, 104) (.head _)) (show gA ≠ w.heap.size + 2 from HOA.out) (show gB ≠ w.heap.size + 2 from HOB.out) HNA.out (fun q hq => HNB.out q (.tail _ hq)) (triC p1 a1 b1) (triC p2 a2 b2))
   refine sq_st 104 gA (triC p1 a1 b1) (HG4.out.h (gA, ZT, 104) (.tail _ (.head _))) (by rw [T1.size]; exact Tryz.infoTri) (HZTs.out.trans T1.size.symm) (tri_one _ _ _) HL.out.1 (by kernel_rfl) ?_
   refine sq_st 104 gB (triC p2 a2 b2) HL.out.2.1 (by rw [T2.size]; exact Tryz.infoTri) (HZTs.out.trans T2.size.symm) (tri_one _ _ _) HL.out.2.2.1 (by kernel_rfl) ?_
   refine sq_done ?_
   refine m_donek iTwo { tmps := #[(.agg (aggT x)), (.agg (aggT y)), (.string p), (.pointer (some ⟨w.heap.size, 0, none⟩)), (.pointer (some ⟨(w.heap.size + 1), 0, none⟩)), undef, (.pointer (some ⟨(w.heap.size + 2), 0, none⟩)), (.pointer (some ⟨gA, 0, none⟩)), (.pointer (some ⟨gB, 0, none⟩)), undef, (.agg (aggT x)), (.string p), (.bool true), (.bool false), (.bool false), (.agg (aggT y)), (.string p), (.bool true), (.bool false), (.bool false), undef, (.agg (aggT x)), (.string p), (.agg (triC p1 a1 b1)), (.agg (aggT y)), (.string p), (.agg (triC p2 a2 b2)), undef, undef], defers := [] } ?_
   exact ⟨rfl, _, _, _, _, _, _, gA, gB, p1, a1, b1, p2, a2, b2, rfl, T1, T2, HL.out.2.2.2⟩
 ·have HG1 := Lib.hid (HG0.out.new ZT 104)
  have HNA := Lib.hid HG0.out.h.apart
  have HLA := Lib.hid HG0.out.b.size
  have HOA := Lib.hid (HG1.out.ne _ (.head _))
  have HS1 := Lib.hid HG1.out.h.tail
  refine sq_allock (some 8) 104 ZT (HZT _) HS1.out ?_
  generalize w0.alloc (.cells ZT 104) = w1 at *
  obtain ⟨gA, hgA⟩ : ∃ g, w0.heap.size = g := ⟨_, rfl⟩
  rw [hgA] at HG1 HNA HLA HOA ⊢
  clear hgA
  refine sq_done ?_
  refine m_maskk (M' := 155) ?_
  refine m_waysk (f := 4) iTwo [2, 6] ?_
  intro i hi
  rcases (by simpa using hi : i = 2 ∨ i = 6) with rfl | rfl
  ·refine sq_ck (some 23) Tryz.func69 (I1.out _) ?_
   rintro e w2 ⟨p1, a1, b1, rfl, T1, bw2⟩
   have HG2 := Lib.hid (HG1.out.on bw2)
   have HS2 := Lib.hid HG2.out.h.tail
   refine ⟨_, rfl, HS2.out, ?_⟩
   refine sq_done ?_
   refine m_maskk (M' := 159) ?_
   refine m_waysk (f := 3) iTwo [5, 6] ?_
   intro i hi
   rcases (by simpa using hi : i = 5 ∨ i = 6) with rfl | rfl
   ·refine sq_ck (some 26) Tryz.func69 (I2.out _) ?_
    rintro e w3 ⟨p2, a2, b2, rfl, T2, bw3⟩
    have HG3 := Lib.hid (HG2.out.on bw3)
    have HS3 := Lib.hid HG3.out.h.tail
    refine ⟨_, rfl, HS3.out, ?_⟩
    refine sq_done ?_
    refine m_maskk (M' := 191) ?_
    refine m_seqk (f := 0) iTwo [(false, 6), (false, 8), (false, 9)] 1023 HS3.out ?_
    have HG4 := Lib.hid (HG3.out.new ZT 104)
    have HNB := Lib.hid HG3.out.h.apart
    have HLB := Lib.hid HG3.out.b.size
    have HOB := Lib.hid (HG4.out.ne _ (.head _))
    have HS4 := Lib.hid HG4.out.h.tail.tail
    refine sq_allock (some 7) 104 ZT (HZT _) HS4.out ?_
    generalize w3.alloc (.cells ZT 104) = w4 at *
    obtain ⟨gB, hgB⟩ : ∃ g, w3.heap.size = g := ⟨_, rfl⟩
    rw [hgB] at HG4 HNB HLB HOB ⊢
    clear hgB
    have HL := Lib.hid (two_put (g := gB) (g' := gA) (C := ZT) (t := 104) (HG4.out.h (gB, ZT, 104) (.head _)) (HG4.out.h (gA, ZT, 104) (.tail _ (.head _))) HS4.out HG4.out.out HG4.out.b HLB.out HLA.out (Ne.symm (show gA ≠ gB from HNB.out (gA, ZT, 104) (.head _))) (show gB ≠ w.heap.size + 2 from HOB.out) (show gA ≠ w.heap.size + 2 from HOA.out) (fun q hq => HNB.out q (.tail _ hq)) HNA.out (triC p1 a1 b1) (triC p2 a2 b2))
    refine sq_st 104 gB (triC p1 a1 b1) (HG4.out.h (gB, ZT, 104) (.head _)) (by rw [T1.size]; exact Tryz.infoTri) (HZTs.out.trans T1.size.symm) (tri_one _ _ _) HL.out.1 (by kernel_rfl) ?_
    refine sq_st 104 gA (triC p2 a2 b2) HL.out.2.1 (by rw [T2.size]; exact Tryz.infoTri) (HZTs.out.trans T2.size.symm) (tri_one _ _ _) HL.out.2.2.1 (by kernel_rfl) ?_
    refine sq_done ?_
    refine m_donek iTwo { tmps := #[(.agg (aggT x)), (.agg (aggT y)), (.string p), (.pointer (some ⟨w.heap.size, 0, none⟩)), (.pointer (some ⟨(w.heap.size + 1), 0, none⟩)), undef, (.pointer (some ⟨(w.heap.size + 2), 0, none⟩)), (.pointer (some ⟨gB, 0, none⟩)), (.pointer (some ⟨gA, 0, none⟩)), undef, (.agg (aggT x)), (.string p), (.bool true), (.bool false), (.bool false), (.agg (aggT y)), (.string p), (.bool true), (.bool false), (.bool false), undef, (.agg (aggT x)), (.string p), (.agg (triC p1 a1 b1)), (.agg (aggT y)), (.string p), (.agg (triC p2 a2 b2)), undef, undef], defers := [] } ?_
    exact ⟨rfl, _, _, _, _, _, _, gB, gA, p1, a1, b1, p2, a2, b2, rfl, T1, T2, HL.out.2.2.2⟩
   ·have HG3 := Lib.hid (HG2.out.new ZT 104)
    have HNB := Lib.hid HG2.out.h.apart
    have HLB := Lib.hid HG2.out.b.size
    have HOB := Lib.hid (HG3.out.ne _ (.head _))
    have HS3 := Lib.hid HG3.out.h.tail.tail
    refine sq_allock (some 7) 104 ZT (HZT _) HS3.out ?_
    generalize w2.alloc (.cells ZT 104) = w3 at *
    obtain ⟨gB, hgB⟩ : ∃ g, w2.heap.size = g := ⟨_, rfl⟩
    rw [hgB] at HG3 HNB HLB HOB ⊢
    clear hgB
    refine sq_done ?_
    refine m_maskk (M' := 223) ?_
    refine m_seqk (f := 0) iTwo [(false, 5), (false, 8), (false, 9)] 1023 HS3.out ?_
    refine sq_ck (some 26) Tryz.func69 (I2.out _) ?_
    rintro e w4 ⟨p2, a2, b2, rfl, T2, bw4⟩
    have HG4 := Lib.hid (HG3.out.on bw4)
    have HS4 := Lib.hid HG4.out.h.tail.tail
    refine ⟨_, rfl, HS4.out, ?_⟩
    have HL := Lib.hid (two_put (g := gB) (g' := gA) (C := ZT) (t := 104) (HG4.out.h (gB, ZT, 104) (.head _)) (HG4.out.h (gA, ZT, 104) (.tail _ (.head _))) HS4.out HG4.out.out HG4.out.b HLB.out HLA.out (Ne.symm (show gA ≠ gB from HNB.out (gA, ZT, 104) (.head _))) (show gB ≠ w.heap.size + 2 from HOB.out) (show gA ≠ w.heap.size + 2 from HOA.out) (fun q hq => HNB.out q (.tail _ hq)) HNA.out (triC p1 a1 b1) (triC p2 a2 b2))
    refine sq_st 104 gB (triC p1 a1 b1) (HG4.out.h (gB, ZT, 104) (.head _)) (by rw [T1.size]; exact Tryz.infoTri) (HZTs.out.trans T1.size.symm) (tri_one _ _ _) HL.out.1 (by kernel_rfl) ?_
    refine sq_st 104 gA (triC p2 a2 b2) HL.out.2.1 (by rw [T2.size]; exact Tryz.infoTri) (HZTs.out.trans T2.size.symm) (tri_one _ _ _) HL.out.2.2.1 (by kernel_rfl) ?_
    refine sq_done ?_
    refine m_donek iTwo { tmps := #[(.agg (aggT x)), (.agg (aggT y)), (.string p), (.pointer (some ⟨w.heap.size, 0, none⟩)), (.pointer (some ⟨(w.heap.size + 1), 0, none⟩)), undef, (.pointer (some ⟨(w.heap.size + 2), 0, none⟩)), (.pointer (some ⟨gB, 0, none⟩)), (.pointer (some ⟨gA, 0, none⟩)), undef, (.agg (aggT x)), (.string p), (.bool true), (.bool false), (.bool false), (.agg (aggT y)), (.string p), (.bool true), (.bool false), (.bool false), undef, (.agg (aggT x)), (.string p), (.agg (triC p1 a1 b1)), (.agg (aggT y)), (.string p), (.agg (triC p2 a2 b2)), undef, undef], defers := [] } ?_
    exact ⟨rfl, _, _, _, _, _, _, gB, gA, p1, a1, b1, p2, a2, b2, rfl, T1, T2, HL.out.2.2.2⟩
  ·have HG2 := Lib.hid (HG1.out.new ZT 104)
   have HNB := Lib.hid HG1.out.h.apart
   have HLB := Lib.hid HG1.out.b.size
   have HOB := Lib.hid (HG2.out.ne _ (.head _))
   have HS2 := Lib.hid HG2.out.h.tail.tail
   refine sq_allock (some 7) 104 ZT (HZT _) HS2.out ?_
   generalize w1.alloc (.cells ZT 104) = w2 at *
   obtain ⟨gB, hgB⟩ : ∃ g, w1.heap.size = g := ⟨_, rfl⟩
   rw [hgB] at HG2 HNB HLB HOB ⊢
   clear hgB
   refine sq_done ?_
   refine m_maskk (M' := 219) ?_
   refine m_seqk (f := 0) iTwo [(false, 2), (false, 5), (false, 8), (false, 9)] 1023 HS2.out ?_
   refine sq_ck (some 23) Tryz.func69 (I1.out _) ?_
   rintro e w3 ⟨p1, a1, b1, rfl, T1, bw3⟩
   have HG3 := Lib.hid (HG2.out.on bw3)
   have HS3 := Lib.hid HG3.out.h.tail.tail
   refine ⟨_, rfl, HS3.out, ?_⟩
   refine sq_ck (some 26) Tryz.func69 (I2.out _) ?_
   rintro e w4 ⟨p2, a2, b2, rfl, T2, bw4⟩
   have HG4 := Lib.hid (HG3.out.on bw4)
   have HS4 := Lib.hid HG4.out.h.tail.tail
   refine ⟨_, rfl, HS4.out, ?_⟩
   have HL := Lib.hid (two_put (g := gB) (g' := gA) (C := ZT) (t := 104) (HG4.out.h (gB, ZT, 104) (.head _)) (HG4.out.h (gA, ZT, 104) (.tail _ (.head _))) HS4.out HG4.out.out HG4.out.b HLB.out HLA.out (Ne.symm (show gA ≠ gB from HNB.out (gA, ZT, 104) (.head _))) (show gB ≠ w.heap.size + 2 from HOB.out) (show gA ≠ w.heap.size + 2 from HOA.out) (fun q hq => HNB.out q (.tail _ hq)) HNA.out (triC p1 a1 b1) (triC p2 a2 b2))
   refine sq_st 104 gB (triC p1 a1 b1) (HG4.out.h (gB, ZT, 104) (.head _)) (by rw [T1.size]; exact Tryz.infoTri) (HZTs.out.trans T1.size.symm) (tri_one _ _ _) HL.out.1 (by kernel_rfl) ?_
   refine sq_st 104 gA (triC p2 a2 b2) HL.out.2.1 (by rw [T2.size]; exact Tryz.infoTri) (HZTs.out.trans T2.size.symm) (tri_one _ _ _) HL.out.2.2.1 (by kernel_rfl) ?_
   refine sq_done ?_
   refine m_donek iTwo { tmps := #[(.agg (aggT x)), (.agg (aggT y)), (.string p), (.pointer (some ⟨w.heap.size, 0, none⟩)), (.pointer (some ⟨(w.heap.size + 1), 0, none⟩)), undef, (.pointer (some ⟨(w.heap.size + 2), 0, none⟩)), (.pointer (some ⟨gB, 0, none⟩)), (.pointer (some ⟨gA, 0, none⟩)), undef, (.agg (aggT x)), (.string p), (.bool true), (.bool false), (.bool false), (.agg (aggT y)), (.string p), (.bool true), (.bool false), (.bool false), undef, (.agg (aggT x)), (.string p), (.agg (triC p1 a1 b1)), (.agg (aggT y)), (.string p), (.agg (triC p2 a2 b2)), undef, undef], defers := [] } ?_
   exact ⟨rfl, _, _, _, _, _, _, gB, gA, p1, a1, b1, p2, a2, b2, rfl, T1, T2, HL.out.2.2.2⟩
theorem addPair_i (x y : Pt) (p : ByteArray) (w : World) : Calls Tryz.prog 72 #[.agg (aggT x), .agg (aggT y), .string p] w fun e w' => e = .returned (.agg (aggT (addPG x y p))) ∧ Below w.heap.size w w' := by
 have HP1 := Lib.hid (pairOk_i x p)
 have HP2 := Lib.hid (pairOk_i y p)
 have HG0 := Lib.hid (G7.start w x y)
 unfold addPG twoPB
 cases hx : pairB x p with
 | false =>
  rw [hx] at HP1
  rw [Bool.false_and, if_neg (by decide)]
  clear hx
  go_enter Tryz.func72, Tryz.ntmps72
  go_wp2_with (first | refine load_p rfl (.tmp 3) rfl w.heap.size x rfl HG0.out.x ?_)
  refine (HP1.out _).mono ?_
  rintro e w1 ⟨rfl, b1⟩
  have HG1 := Lib.hid (HG0.out.on b1)
  clear b1 HG0
  have HW := Lib.hid (below_setRow2 HG1.out.b (show w.heap.size ≤ w.heap.size + 2 by omega) (aggT noP))
  have HR := Lib.hid (setRow_heap w1 (w.heap.size + 2) _ (aggT noP) _ _ HG1.out.o)
  go_wp2_with (first | refine store_p rfl (.tmp 6) (.tmp 20) rfl (w.heap.size + 2) _ noP rfl rfl HG1.out.o rfl ?_)
  exact bodyPost_ret (results_cell_row Tryz.results72 _ _ (w.heap.size + 2) _ _ _ _ rfl HR.out Tryz.underlying25 rfl Tryz.infoP) rfl ⟨rfl, HW.out⟩
 | true =>
  rw [hx] at HP1
  rw [Bool.true_and]
  cases hy : pairB y p with
  | false =>
   rw [hy] at HP2
   rw [if_neg (by decide)]
   clear hx hy
   go_enter Tryz.func72, Tryz.ntmps72
   go_wp2_with (first | refine load_p rfl (.tmp 3) rfl w.heap.size x rfl HG0.out.x ?_)
   refine (HP1.out _).mono ?_
   rintro e w1 ⟨rfl, b1⟩
   have HG1 := Lib.hid (HG0.out.on b1)
   clear b1 HG0
   obtain ⟨cy1, cy2⟩ := agg_cells HG1.out.y
   go_wp2_with fail
   clear cy1 cy2
   refine (HP2.out _).mono ?_
   rintro e w2 ⟨rfl, b2⟩
   have HG2 := Lib.hid (HG1.out.on b2)
   clear b2 HG1
   have HW := Lib.hid (below_setRow2 HG2.out.b (show w.heap.size ≤ w.heap.size + 2 by omega) (aggT noP))
   have HR := Lib.hid (setRow_heap w2 (w.heap.size + 2) _ (aggT noP) _ _ HG2.out.o)
   go_wp2_with (first | refine store_p rfl (.tmp 6) (.tmp 20) rfl (w.heap.size + 2) _ noP rfl rfl HG2.out.o rfl ?_)
   exact bodyPost_ret (results_cell_row Tryz.results72 _ _ (w.heap.size + 2) _ _ _ _ rfl HR.out Tryz.underlying25 rfl Tryz.infoP) rfl ⟨rfl, HW.out⟩
  | true =>
   rw [hy] at HP2
   rw [if_pos rfl]
   obtain ⟨⟨sx1, sx2, sp⟩, ix, h1, hG⟩ := pair_sizes hx
   obtain ⟨⟨sy1, sy2, _⟩, iy, _, _⟩ := pair_sizes hy
   obtain ⟨ZT, hzt, HZT⟩ := zero_tri
   have HZTs := Lib.hid hzt
   have I1 := Lib.hid (fun w => pairOf_any x p w sx1 sx2 sp)
   have I2 := Lib.hid (fun w => pairOf_any y p w sy1 sy2 sp)
   have HI := Lib.hid (And.intro ix (And.intro iy (And.intro (addP_in (show 0 < gV p by omega) (valP x) (valP y)) hG)))
   clear hx hy sx1 sx2 sp ix h1 hG sy1 sy2 iy
   go_enter Tryz.func72, Tryz.ntmps72
   go_wp2_with (first | refine load_p rfl (.tmp 3) rfl w.heap.size x rfl HG0.out.x ?_)
   refine (HP1.out _).mono ?_
   rintro e w1 ⟨rfl, b1⟩
   have HG1 := Lib.hid (HG0.out.on b1)
   clear b1 HG0
   obtain ⟨cy1, cy2⟩ := agg_cells HG1.out.y
   go_wp2_with fail
   clear cy1 cy2
   refine (HP2.out _).mono ?_
   rintro e w2 ⟨rfl, b2⟩
   have HG2 := Lib.hid (HG1.out.on b2)
   clear b2 HG1 HP1 HP2
   go_upto_region 3 with (fail)
   have HG0 := Lib.hid (begun_g7 HG2.out).drew
   clear HG2
   refine Code.wp_mono ?_ (two_made 3 _ x y p hzt HZT I1 I2 HG0)
   clear HG0 I1 I2
   rintro e a w3 ⟨rfl, u21, u22, u23, u24, u25, u26, g7, g8, p1, a1, b1, p2, a2, b2, rfl, T1, T2, hL⟩
   have HT1 := Lib.hid T1
   have HT2 := Lib.hid T2
   have HL := Lib.hid hL
   clear T1 T2 hL
   refine ‹∀ a w, Code.wp _ _ _ a w → _› _ _ ?_
   go_wp2_with fail
   refine (plus_any HL.out.h HL.out.h' HT1.out HT2.out HI.out.1 HI.out.2.1 HI.out.2.2.2).mono ?_
   rintro e w4 ⟨p3, a3, b3, rfl, T3, bw4⟩
   have HT3 := Lib.hid T3
   have HL4 := Lib.hid (HL.out.on bw4)
   have HG4 := Lib.hid (begun1 (Held.none w4) ZT 104)
   have HE4 := Lib.hid (HG4.out.put (Nat.le_refl _) (triC p3 a3 b3))
   have HL5 := Lib.hid (HL4.out.on HE4.out.b)
   clear bw4 HL T3 HL4
   go_wp2_with (first | refine store_v rfl 104 (.tmp 9) (.tmp 27) rfl w4.heap.size ZT (triC p3 a3 b3) rfl rfl HG4.out.out (by rw [HT3.out.size]; exact Tryz.infoTri) (HZTs.out.trans HT3.out.size.symm) (tri_one _ _ _) ?_)
   refine (told_any HE4.out.out HT3.out HI.out.2.2.1 HI.out.2.2.2).mono ?_
   rintro e w6 ⟨rfl, bw6⟩
   have HL6 := Lib.hid (HL5.out.on bw6)
   have HR := Lib.hid (setRow_heap w6 (w.heap.size + 2) _ (aggT (txtP (addP (gV p) (valP x) (valP y)))) _ _ HL6.out.out)
   have HW := Lib.hid (below_setRow2 HL6.out.b (show w.heap.size ≤ w.heap.size + 2 by omega) (aggT (txtP (addP (gV p) (valP x) (valP y)))))
   clear bw6 HL5 HG4 HE4
   go_wp2_with (first | refine store_p rfl (.tmp 6) (.tmp 28) rfl (w.heap.size + 2) _ _ rfl rfl HL6.out.out rfl ?_)
   exact bodyPost_ret (results_cell_row Tryz.results72 _ _ (w.heap.size + 2) _ _ _ _ rfl HR.out Tryz.underlying25 rfl Tryz.infoP) rfl ⟨rfl, HW.out⟩
theorem subPair_i (x y : Pt) (p : ByteArray) (w : World) : Calls Tryz.prog 73 #[.agg (aggT x), .agg (aggT y), .string p] w fun e w' => e = .returned (.agg (aggT (subPG x y p))) ∧ Below w.heap.size w w' := by
 have HP1 := Lib.hid (pairOk_i x p)
 have HP2 := Lib.hid (pairOk_i y p)
 have HG0 := Lib.hid (G7.start w x y)
 unfold subPG twoPB
 cases hx : pairB x p with
 | false =>
  rw [hx] at HP1
  rw [Bool.false_and, if_neg (by decide)]
  clear hx
  go_enter Tryz.func73, Tryz.ntmps73
  go_wp2_with (first | refine load_p rfl (.tmp 3) rfl w.heap.size x rfl HG0.out.x ?_)
  refine (HP1.out _).mono ?_
  rintro e w1 ⟨rfl, b1⟩
  have HG1 := Lib.hid (HG0.out.on b1)
  clear b1 HG0
  have HW := Lib.hid (below_setRow2 HG1.out.b (show w.heap.size ≤ w.heap.size + 2 by omega) (aggT noP))
  have HR := Lib.hid (setRow_heap w1 (w.heap.size + 2) _ (aggT noP) _ _ HG1.out.o)
  go_wp2_with (first | refine store_p rfl (.tmp 6) (.tmp 20) rfl (w.heap.size + 2) _ noP rfl rfl HG1.out.o rfl ?_)
  exact bodyPost_ret (results_cell_row Tryz.results73 _ _ (w.heap.size + 2) _ _ _ _ rfl HR.out Tryz.underlying25 rfl Tryz.infoP) rfl ⟨rfl, HW.out⟩
 | true =>
  rw [hx] at HP1
  rw [Bool.true_and]
  cases hy : pairB y p with
  | false =>
   rw [hy] at HP2
   rw [if_neg (by decide)]
   clear hx hy
   go_enter Tryz.func73, Tryz.ntmps73
   go_wp2_with (first | refine load_p rfl (.tmp 3) rfl w.heap.size x rfl HG0.out.x ?_)
   refine (HP1.out _).mono ?_
   rintro e w1 ⟨rfl, b1⟩
   have HG1 := Lib.hid (HG0.out.on b1)
   clear b1 HG0
   obtain ⟨cy1, cy2⟩ := agg_cells HG1.out.y
   go_wp2_with fail
   clear cy1 cy2
   refine (HP2.out _).mono ?_
   rintro e w2 ⟨rfl, b2⟩
   have HG2 := Lib.hid (HG1.out.on b2)
   clear b2 HG1
   have HW := Lib.hid (below_setRow2 HG2.out.b (show w.heap.size ≤ w.heap.size + 2 by omega) (aggT noP))
   have HR := Lib.hid (setRow_heap w2 (w.heap.size + 2) _ (aggT noP) _ _ HG2.out.o)
   go_wp2_with (first | refine store_p rfl (.tmp 6) (.tmp 20) rfl (w.heap.size + 2) _ noP rfl rfl HG2.out.o rfl ?_)
   exact bodyPost_ret (results_cell_row Tryz.results73 _ _ (w.heap.size + 2) _ _ _ _ rfl HR.out Tryz.underlying25 rfl Tryz.infoP) rfl ⟨rfl, HW.out⟩
  | true =>
   rw [hy] at HP2
   rw [if_pos rfl]
   obtain ⟨⟨sx1, sx2, sp⟩, ix, h1, hG⟩ := pair_sizes hx
   obtain ⟨⟨sy1, sy2, _⟩, iy, _, _⟩ := pair_sizes hy
   obtain ⟨ZT, hzt, HZT⟩ := zero_tri
   have HZTs := Lib.hid hzt
   have I1 := Lib.hid (fun w => pairOf_any x p w sx1 sx2 sp)
   have I2 := Lib.hid (fun w => pairOf_any y p w sy1 sy2 sp)
   have HI := Lib.hid (And.intro ix (And.intro iy (And.intro (subP_in (show 0 < gV p by omega) (valP x) (valP y)) hG)))
   clear hx hy sx1 sx2 sp ix h1 hG sy1 sy2 iy
   go_enter Tryz.func73, Tryz.ntmps73
   go_wp2_with (first | refine load_p rfl (.tmp 3) rfl w.heap.size x rfl HG0.out.x ?_)
   refine (HP1.out _).mono ?_
   rintro e w1 ⟨rfl, b1⟩
   have HG1 := Lib.hid (HG0.out.on b1)
   clear b1 HG0
   obtain ⟨cy1, cy2⟩ := agg_cells HG1.out.y
   go_wp2_with fail
   clear cy1 cy2
   refine (HP2.out _).mono ?_
   rintro e w2 ⟨rfl, b2⟩
   have HG2 := Lib.hid (HG1.out.on b2)
   clear b2 HG1 HP1 HP2
   go_upto_region 3 with (fail)
   have HG0 := Lib.hid (begun_g7 HG2.out).drew
   clear HG2
   refine Code.wp_mono ?_ (two_made 3 _ x y p hzt HZT I1 I2 HG0)
   clear HG0 I1 I2
   rintro e a w3 ⟨rfl, u21, u22, u23, u24, u25, u26, g7, g8, p1, a1, b1, p2, a2, b2, rfl, T1, T2, hL⟩
   have HT1 := Lib.hid T1
   have HT2 := Lib.hid T2
   have HL := Lib.hid hL
   clear T1 T2 hL
   refine ‹∀ a w, Code.wp _ _ _ a w → _› _ _ ?_
   go_wp2_with fail
   refine (less_any HL.out.h HL.out.h' HT1.out HT2.out HI.out.1 HI.out.2.1 HI.out.2.2.2).mono ?_
   rintro e w4 ⟨p3, a3, b3, rfl, T3, bw4⟩
   have HT3 := Lib.hid T3
   have HL4 := Lib.hid (HL.out.on bw4)
   have HG4 := Lib.hid (begun1 (Held.none w4) ZT 104)
   have HE4 := Lib.hid (HG4.out.put (Nat.le_refl _) (triC p3 a3 b3))
   have HL5 := Lib.hid (HL4.out.on HE4.out.b)
   clear bw4 HL T3 HL4
   go_wp2_with (first | refine store_v rfl 104 (.tmp 9) (.tmp 27) rfl w4.heap.size ZT (triC p3 a3 b3) rfl rfl HG4.out.out (by rw [HT3.out.size]; exact Tryz.infoTri) (HZTs.out.trans HT3.out.size.symm) (tri_one _ _ _) ?_)
   refine (told_any HE4.out.out HT3.out HI.out.2.2.1 HI.out.2.2.2).mono ?_
   rintro e w6 ⟨rfl, bw6⟩
   have HL6 := Lib.hid (HL5.out.on bw6)
   have HR := Lib.hid (setRow_heap w6 (w.heap.size + 2) _ (aggT (txtP (subP (gV p) (valP x) (valP y)))) _ _ HL6.out.out)
   have HW := Lib.hid (below_setRow2 HL6.out.b (show w.heap.size ≤ w.heap.size + 2 by omega) (aggT (txtP (subP (gV p) (valP x) (valP y)))))
   clear bw6 HL5 HG4 HE4
   go_wp2_with (first | refine store_p rfl (.tmp 6) (.tmp 28) rfl (w.heap.size + 2) _ _ rfl rfl HL6.out.out rfl ?_)
   exact bodyPost_ret (results_cell_row Tryz.results73 _ _ (w.heap.size + 2) _ _ _ _ rfl HR.out Tryz.underlying25 rfl Tryz.infoP) rfl ⟨rfl, HW.out⟩
theorem mulPair_i (x y : Pt) (p : ByteArray) (w : World) : Calls Tryz.prog 39 #[.agg (aggT x), .agg (aggT y), .string p] w fun e w' => e = .returned (.agg (aggT (mulPG x y p))) ∧ Below w.heap.size w w' := by
 have HP1 := Lib.hid (pairOk_i x p)
 have HP2 := Lib.hid (pairOk_i y p)
 have HG0 := Lib.hid (G7.start w x y)
 unfold mulPG twoPB
 cases hx : pairB x p with
 | false =>
  rw [hx] at HP1
  rw [Bool.false_and, if_neg (by decide)]
  clear hx
  go_enter Tryz.func39, Tryz.ntmps39
  go_wp2_with (first | refine load_p rfl (.tmp 3) rfl w.heap.size x rfl HG0.out.x ?_)
  refine (HP1.out _).mono ?_
  rintro e w1 ⟨rfl, b1⟩
  have HG1 := Lib.hid (HG0.out.on b1)
  clear b1 HG0
  have HW := Lib.hid (below_setRow2 HG1.out.b (show w.heap.size ≤ w.heap.size + 2 by omega) (aggT noP))
  have HR := Lib.hid (setRow_heap w1 (w.heap.size + 2) _ (aggT noP) _ _ HG1.out.o)
  go_wp2_with (first | refine store_p rfl (.tmp 6) (.tmp 20) rfl (w.heap.size + 2) _ noP rfl rfl HG1.out.o rfl ?_)
  exact bodyPost_ret (results_cell_row Tryz.results39 _ _ (w.heap.size + 2) _ _ _ _ rfl HR.out Tryz.underlying25 rfl Tryz.infoP) rfl ⟨rfl, HW.out⟩
 | true =>
  rw [hx] at HP1
  rw [Bool.true_and]
  cases hy : pairB y p with
  | false =>
   rw [hy] at HP2
   rw [if_neg (by decide)]
   clear hx hy
   go_enter Tryz.func39, Tryz.ntmps39
   go_wp2_with (first | refine load_p rfl (.tmp 3) rfl w.heap.size x rfl HG0.out.x ?_)
   refine (HP1.out _).mono ?_
   rintro e w1 ⟨rfl, b1⟩
   have HG1 := Lib.hid (HG0.out.on b1)
   clear b1 HG0
   obtain ⟨cy1, cy2⟩ := agg_cells HG1.out.y
   go_wp2_with fail
   clear cy1 cy2
   refine (HP2.out _).mono ?_
   rintro e w2 ⟨rfl, b2⟩
   have HG2 := Lib.hid (HG1.out.on b2)
   clear b2 HG1
   have HW := Lib.hid (below_setRow2 HG2.out.b (show w.heap.size ≤ w.heap.size + 2 by omega) (aggT noP))
   have HR := Lib.hid (setRow_heap w2 (w.heap.size + 2) _ (aggT noP) _ _ HG2.out.o)
   go_wp2_with (first | refine store_p rfl (.tmp 6) (.tmp 20) rfl (w.heap.size + 2) _ noP rfl rfl HG2.out.o rfl ?_)
   exact bodyPost_ret (results_cell_row Tryz.results39 _ _ (w.heap.size + 2) _ _ _ _ rfl HR.out Tryz.underlying25 rfl Tryz.infoP) rfl ⟨rfl, HW.out⟩
  | true =>
   rw [hy] at HP2
   rw [if_pos rfl]
   obtain ⟨⟨sx1, sx2, sp⟩, ix, h1, hG⟩ := pair_sizes hx
   obtain ⟨⟨sy1, sy2, _⟩, iy, _, _⟩ := pair_sizes hy
   obtain ⟨ZT, hzt, HZT⟩ := zero_tri
   have HZTs := Lib.hid hzt
   have I1 := Lib.hid (fun w => pairOf_any x p w sx1 sx2 sp)
   have I2 := Lib.hid (fun w => pairOf_any y p w sy1 sy2 sp)
   have HI := Lib.hid (And.intro ix (And.intro iy (And.intro (mulP_in (show 0 < gV p by omega) (valP x) (valP y)) hG)))
   clear hx hy sx1 sx2 sp ix h1 hG sy1 sy2 iy
   go_enter Tryz.func39, Tryz.ntmps39
   go_wp2_with (first | refine load_p rfl (.tmp 3) rfl w.heap.size x rfl HG0.out.x ?_)
   refine (HP1.out _).mono ?_
   rintro e w1 ⟨rfl, b1⟩
   have HG1 := Lib.hid (HG0.out.on b1)
   clear b1 HG0
   obtain ⟨cy1, cy2⟩ := agg_cells HG1.out.y
   go_wp2_with fail
   clear cy1 cy2
   refine (HP2.out _).mono ?_
   rintro e w2 ⟨rfl, b2⟩
   have HG2 := Lib.hid (HG1.out.on b2)
   clear b2 HG1 HP1 HP2
   go_upto_region 3 with (fail)
   have HG0 := Lib.hid (begun_g7 HG2.out).drew
   clear HG2
   refine Code.wp_mono ?_ (two_made 3 _ x y p hzt HZT I1 I2 HG0)
   clear HG0 I1 I2
   rintro e a w3 ⟨rfl, u21, u22, u23, u24, u25, u26, g7, g8, p1, a1, b1, p2, a2, b2, rfl, T1, T2, hL⟩
   have HT1 := Lib.hid T1
   have HT2 := Lib.hid T2
   have HL := Lib.hid hL
   clear T1 T2 hL
   refine ‹∀ a w, Code.wp _ _ _ a w → _› _ _ ?_
   go_wp2_with fail
   refine (times_any HL.out.h HL.out.h' HT1.out HT2.out HI.out.1 HI.out.2.1 HI.out.2.2.2).mono ?_
   rintro e w4 ⟨p3, a3, b3, rfl, T3, bw4⟩
   have HT3 := Lib.hid T3
   have HL4 := Lib.hid (HL.out.on bw4)
   have HG4 := Lib.hid (begun1 (Held.none w4) ZT 104)
   have HE4 := Lib.hid (HG4.out.put (Nat.le_refl _) (triC p3 a3 b3))
   have HL5 := Lib.hid (HL4.out.on HE4.out.b)
   clear bw4 HL T3 HL4
   go_wp2_with (first | refine store_v rfl 104 (.tmp 9) (.tmp 27) rfl w4.heap.size ZT (triC p3 a3 b3) rfl rfl HG4.out.out (by rw [HT3.out.size]; exact Tryz.infoTri) (HZTs.out.trans HT3.out.size.symm) (tri_one _ _ _) ?_)
   refine (told_any HE4.out.out HT3.out HI.out.2.2.1 HI.out.2.2.2).mono ?_
   rintro e w6 ⟨rfl, bw6⟩
   have HL6 := Lib.hid (HL5.out.on bw6)
   have HR := Lib.hid (setRow_heap w6 (w.heap.size + 2) _ (aggT (txtP (mulP (gV p) (valP x) (valP y)))) _ _ HL6.out.out)
   have HW := Lib.hid (below_setRow2 HL6.out.b (show w.heap.size ≤ w.heap.size + 2 by omega) (aggT (txtP (mulP (gV p) (valP x) (valP y)))))
   clear bw6 HL5 HG4 HE4
   go_wp2_with (first | refine store_p rfl (.tmp 6) (.tmp 28) rfl (w.heap.size + 2) _ _ rfl rfl HL6.out.out rfl ?_)
   exact bodyPost_ret (results_cell_row Tryz.results39 _ _ (w.heap.size + 2) _ _ _ _ rfl HR.out Tryz.underlying25 rfl Tryz.infoP) rfl ⟨rfl, HW.out⟩
end Go.Proofs.YtdajgcgliidjbaaGreat

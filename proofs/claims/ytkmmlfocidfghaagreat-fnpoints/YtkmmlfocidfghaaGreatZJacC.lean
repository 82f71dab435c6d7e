import Derived.Test.YtkmmlfocidfghaaGreatZJac
import Derived.Test.YtkmmlfocidfghaaGreatUInvs
namespace Go.Proofs.YtkmmlfocidfghaaGreat
open Go.RowKit
theorem built_10t : Tryz.prog.built 58 [(0, .bool true)] = some (ptC true (.slice none 0 0) (.slice none 0 0) (.slice none 0 0) (.slice none 0 0)) := by
  cases hq : structParts Tryz.prog 58 with
  | none => have e := Tryz.parts10; rw [hq] at e; cases e
  | some q =>
    obtain ⟨z0, pl⟩ := q
    have e := Tryz.parts10
    rw [hq] at e
    simp only [Option.map_some, Option.some.injEq, Prod.mk.injEq] at e
    obtain ⟨e1, rfl⟩ := e
    rw [built_parts hq]
    have ez : z0.cells = #[] ++ #[.bool false] ++ #[.slice none 0 0, .slice none 0 0, .slice none 0 0, .slice none 0 0] := Array.ext' (by rw [e1]; rfl)
    rw [ez, fill_step (R := #[.bool true]) (off := 0) (n := 1) rfl rfl rfl rfl rfl]
    rfl
def outJ (n : Nat) (x y z : Pn) : Pn × Pn :=
  let i := inv7 z n
  let zz := mulP n i i
  (mulP n x zz, mulP n y (mulP n zz i))
set_option maxRecDepth 8000 in
set_option maxHeartbeats 8000000 in
theorem out_z {w : World} {vp : Value} {x y z : Pn} {A1 A2 A3 A4 A5 A6 : Option Addr} {n1 c1 n2 c2 n3 c3 n4 c4 n5 c5 n6 c6 : Nat} {n : Nat} (hx : PairX w (.agg #[.slice A1 n1 c1, .slice A2 n2 c2]) x) (hy : PairX w (.agg #[.slice A3 n3 c3, .slice A4 n4 c4]) y) (hz : PairX w (.agg #[.slice A5 n5 c5, .slice A6 n6 c6]) z) (hp : RowX w vp n) (ix : InP2 n x) (iy : InP2 n y) (iz : InP2 n z) (hn : n < GB) (h1 : 1 < n) (z0 : z = (0, 0)) :
    Calls Tryz.prog 114 #[.agg (jaC (.slice A1 n1 c1) (.slice A2 n2 c2) (.slice A3 n3 c3) (.slice A4 n4 c4) (.slice A5 n5 c5) (.slice A6 n6 c6)), vp] w (PtTo none w) := by
  have HP := Lib.hid hp
  obtain ⟨pA, pn, pc, rfl⟩ := hp.shape
  have HX := Lib.hid hx
  have HY := Lib.hid hy
  have HZ := Lib.hid hz
  have H1 := Lib.hid h1
  have HI := Lib.hid (show n < GB ∧ (InP2 n x ∧ InP2 n y ∧ InP2 n z) ∧ 0 < n from ⟨hn, ⟨ix, iy, iz⟩, Nat.lt_of_le_of_lt (Nat.zero_le _) ix.1⟩)
  have HZ0 := Lib.hid (decide_eq_true z0)
  clear z0
  have HG := Lib.hid (begun2 (Held.none w) (jaC (.slice A1 n1 c1) (.slice A2 n2 c2) (.slice A3 n3 c3) (.slice A4 n4 c4) (.slice A5 n5 c5) (.slice A6 n6 c6)) #[.bool false, .slice none 0 0, .slice none 0 0, .slice none 0 0, .slice none 0 0] 125 58)
  clear hx hy hz hp ix iy iz hn h1
  go_enter Tryz.func114, Tryz.ntmps114
  go_upto_region 1 with (fail)
  generalize (w.alloc _).alloc _ = v0 at *
  have HS0 := Lib.hid HG.out.h
  refine wp_region_line (S := fun w' => Held w' [(w.heap.size, jaC (.slice A1 n1 c1) (.slice A2 n2 c2) (.slice A3 n3 c3) (.slice A4 n4 c4) (.slice A5 n5 c5) (.slice A6 n6 c6), 125)]) [(true, 0), (true, 1), (false, 2)] (by kernel_rfl) (by kernel_rfl) HS0.out ?_
  refine sq_ps [(0, .pointer (some ⟨w.heap.size, 4, none⟩))] (by kernel_rfl) ?_
  refine sq_ld (some 9) (ld_mid (k := 4) (.head _) rfl rfl) (by kernel_rfl) ?_
  refine sq_c (some 10) Tryz.func138 (lzero7_x (HZ.out.below HG.out.b)) (by kernel_rfl) ?_
  rintro e v1 ⟨he, bw1⟩
  rw [HZ0.out] at he
  subst he
  replace HG := Lib.hid (HG.out.on bw1)
  have HS1 := Lib.hid HG.out.h
  refine ⟨_, rfl, HS1.out, ?_⟩
  refine sq_fin { tmps := List.toArray ([.agg (jaC (.slice A1 n1 c1) (.slice A2 n2 c2) (.slice A3 n3 c3) (.slice A4 n4 c4) (.slice A5 n5 c5) (.slice A6 n6 c6)), .slice pA pn pc, .pointer (some ⟨w.heap.size, 0, none⟩), undef, .pointer (some ⟨(w.heap.size + 1), 0, none⟩), undef, undef, undef, .pointer (some ⟨w.heap.size, 4, none⟩), .agg #[.slice A5 n5 c5, .slice A6 n6 c6], .bool true, undef, undef, undef, undef, undef, undef, undef, undef, undef, undef, undef, undef, undef, undef, undef, undef, undef, undef, undef, undef, undef, undef, undef, undef, undef, undef]), defers := [] } (by kernel_rfl) ?_
  refine (by assumption : ∀ (a : Act) (w_1 : World), Code.wp _ _ _ a w_1 → _) _ _ ?_
  go_upto_region 2 with (fail)
  have HS := Lib.hid HG.out.h
  refine wp_region_line (S := fun w' => Held w' [(w.heap.size, jaC (.slice A1 n1 c1) (.slice A2 n2 c2) (.slice A3 n3 c3) (.slice A4 n4 c4) (.slice A5 n5 c5) (.slice A6 n6 c6), 125)]) [(true, 0), (false, 1)] (by kernel_rfl) (by kernel_rfl) HS.out ?_
  refine sq_pure (some 11) (.agg (ptC true (.slice none 0 0) (.slice none 0 0) (.slice none 0 0) (.slice none 0 0))) (by kernel_rfl) (by kernel_rfl) (held_build 58 #[(0, (.const (.bool true)))] (by kernel_rfl) _ (by kernel_rfl) _ built_10t) ?_
  have HE := Lib.hid (HG.out.put (show w.heap.size ≤ (w.heap.size + 1) by omega) (ptC true (.slice none 0 0) (.slice none 0 0) (.slice none 0 0) (.slice none 0 0)))
  have HO := Lib.hid HG.out.out
  refine sq_st 58 (w.heap.size + 1) (ptC true (.slice none 0 0) (.slice none 0 0) (.slice none 0 0) (.slice none 0 0)) HO.out Tryz.infoPt10 rfl (by kernel_rfl) (HS.out.setRow HG.out.ne) (by kernel_rfl) ?_
  refine sq_done ?_
  refine (by assumption : ∀ (a : Act) (w_1 : World), Code.wp _ Code.ret _ a w_1 → _) _ _ ?_
  refine wp_ret ?_
  exact bodyPost_ret (results_cell_row Tryz.results114 _ _ ((w.heap.size + 1)) _ _ _ _ (by kernel_rfl) HE.out.out Tryz.underlying58 rfl Tryz.infoPt10) (by kernel_rfl) ⟨_, rfl, ⟨_, _, _, _, _, _, _, _, _, _, _, _, rfl⟩, HE.out.b⟩
set_option maxRecDepth 8000 in
set_option maxHeartbeats 8000000 in
theorem out_main {w : World} {vp : Value} {x y z : Pn} {A1 A2 A3 A4 A5 A6 : Option Addr} {n1 c1 n2 c2 n3 c3 n4 c4 n5 c5 n6 c6 : Nat} {n : Nat} (hx : PairX w (.agg #[.slice A1 n1 c1, .slice A2 n2 c2]) x) (hy : PairX w (.agg #[.slice A3 n3 c3, .slice A4 n4 c4]) y) (hz : PairX w (.agg #[.slice A5 n5 c5, .slice A6 n6 c6]) z) (hp : RowX w vp n) (ix : InP2 n x) (iy : InP2 n y) (iz : InP2 n z) (hn : n < GB) (h1 : 1 < n) (z0 : z ≠ (0, 0)) :
    Calls Tryz.prog 114 #[.agg (jaC (.slice A1 n1 c1) (.slice A2 n2 c2) (.slice A3 n3 c3) (.slice A4 n4 c4) (.slice A5 n5 c5) (.slice A6 n6 c6)), vp] w (PtTo (some (outJ n x y z)) w) := by
  have HP := Lib.hid hp
  obtain ⟨pA, pn, pc, rfl⟩ := hp.shape
  have HX := Lib.hid hx
  have HY := Lib.hid hy
  have HZ := Lib.hid hz
  have H1 := Lib.hid h1
  have HI := Lib.hid (show n < GB ∧ (InP2 n x ∧ InP2 n y ∧ InP2 n z) ∧ 0 < n from ⟨hn, ⟨ix, iy, iz⟩, Nat.lt_of_le_of_lt (Nat.zero_le _) ix.1⟩)
  have HZ0 := Lib.hid (decide_eq_false z0)
  clear z0
  have HG := Lib.hid (begun2 (Held.none w) (jaC (.slice A1 n1 c1) (.slice A2 n2 c2) (.slice A3 n3 c3) (.slice A4 n4 c4) (.slice A5 n5 c5) (.slice A6 n6 c6)) #[.bool false, .slice none 0 0, .slice none 0 0, .slice none 0 0, .slice none 0 0] 125 58)
  clear hx hy hz hp ix iy iz hn h1
  go_enter Tryz.func114, Tryz.ntmps114
  go_upto_region 1 with (fail)
  generalize (w.alloc _).alloc _ = v0 at *
  have HS0 := Lib.hid HG.out.h
  refine wp_region_line (S := fun w' => Held w' [(w.heap.size, jaC (.slice A1 n1 c1) (.slice A2 n2 c2) (.slice A3 n3 c3) (.slice A4 n4 c4) (.slice A5 n5 c5) (.slice A6 n6 c6), 125)]) [(true, 0), (true, 1), (false, 2)] (by kernel_rfl) (by kernel_rfl) HS0.out ?_
  refine sq_ps [(0, .pointer (some ⟨w.heap.size, 4, none⟩))] (by kernel_rfl) ?_
  refine sq_ld (some 9) (ld_mid (k := 4) (.head _) rfl rfl) (by kernel_rfl) ?_
  refine sq_c (some 10) Tryz.func138 (lzero7_x (HZ.out.below HG.out.b)) (by kernel_rfl) ?_
  rintro e v1 ⟨he, bw1⟩
  rw [HZ0.out] at he
  subst he
  replace HG := Lib.hid (HG.out.on bw1)
  have HS1 := Lib.hid HG.out.h
  refine ⟨_, rfl, HS1.out, ?_⟩
  refine sq_fin { tmps := List.toArray ([.agg (jaC (.slice A1 n1 c1) (.slice A2 n2 c2) (.slice A3 n3 c3) (.slice A4 n4 c4) (.slice A5 n5 c5) (.slice A6 n6 c6)), .slice pA pn pc, .pointer (some ⟨w.heap.size, 0, none⟩), undef, .pointer (some ⟨(w.heap.size + 1), 0, none⟩), undef, undef, undef, .pointer (some ⟨w.heap.size, 4, none⟩), .agg #[.slice A5 n5 c5, .slice A6 n6 c6], .bool false, undef, undef, undef, undef, undef, undef, undef, undef, undef, undef, undef, undef, undef, undef, undef, undef, undef, undef, undef, undef, undef, undef, undef, undef, undef, undef]), defers := [] } (by kernel_rfl) ?_
  refine (by assumption : ∀ (a : Act) (w_1 : World), Code.wp _ _ _ a w_1 → _) _ _ ?_
  go_upto_region 3 with (fail)
  have HS1 := Lib.hid HG.out.h
  refine wp_region_line (S := fun w' => Held w' [(w.heap.size, jaC (.slice A1 n1 c1) (.slice A2 n2 c2) (.slice A3 n3 c3) (.slice A4 n4 c4) (.slice A5 n5 c5) (.slice A6 n6 c6), 125)]) [(true, 0), (true, 1), (true, 2), (false, 3), (true, 4), (true, 5), (true, 6), (false, 7), (false, 8), (true, 9)] (by kernel_rfl) (by kernel_rfl) HS1.out ?_
  refine sq_ps [(0, .pointer (some ⟨w.heap.size, 4, none⟩))] (by kernel_rfl) ?_
  refine sq_ld (some 14) (ld_mid (k := 4) (.head _) rfl rfl) (by kernel_rfl) ?_
  refine sq_ps [(2, .slice pA pn pc)] (by kernel_rfl) ?_
  refine sq_c (some 16) Tryz.func139 (linv7_x (HZ.out.below HG.out.b) (HP.out.below HG.out.b) HI.out.2.1.2.2 HI.out.1 H1.out) (by kernel_rfl) ?_
  rintro e v2 ⟨y2, rfl, k2, bw2⟩
  generalize decide (Nat.gcd _ _ = 1) = bi at *
  obtain ⟨q1, rfl⟩ := k2.q
  have Zq1 := Lib.hid k2.arr
  have Rq1 := Lib.hid k2
  clear k2
  have Iq1 := Lib.hid (show InP2 n (inv7 z n) from (inv7_in HI.out.2.2))
  obtain ⟨X1, hX1⟩ : ∃ X, inv7 z n = X := ⟨_, rfl⟩
  rw [hX1] at Rq1 Iq1
  have EX1 := Lib.hid hX1
  clear hX1
  replace HG := Lib.hid (HG.out.on bw2)
  have HS2 := Lib.hid HG.out.h
  refine ⟨_, rfl, HS2.out, ?_⟩
  refine sq_ps [(4, .tuple #[.agg q1, .bool bi]), (5, .agg q1), (6, .bool bi)] (by kernel_rfl) ?_
  have APg1 := Lib.hid HG.out.h.apart
  have GEg1 := Lib.hid HG.out.b.size
  have NOg1 := Lib.hid HG.out.new_ne
  have HN := Lib.hid (heap_alloc_new v2 (.cells #[.slice none 0 0, .slice none 0 0] 56))
  have bz := (Below.refl v2.heap.size v2).alloc (Nat.le_refl _) (.cells #[.slice none 0 0, .slice none 0 0] 56)
  replace HG := Lib.hid (HG.out.on bz)
  replace Rq1 := Lib.hid (Rq1.out.below bz)
  have HSa := Lib.hid HG.out.h
  refine sq_alloc (some 5) 56 #[.slice none 0 0, .slice none 0 0] (by kernel_rfl) (by kernel_rfl) (by kernel_rfl) (by kernel_rfl) (zero_7 _) HSa.out ?_
  clear bz
  generalize v2.alloc _ = u1 at *
  generalize v2.heap.size = g1 at *
  refine sq_st 56 g1 q1 HN.out (by rw [Zq1.out.1]; exact Tryz.info7) (by rw [Zq1.out.1]; rfl) Zq1.out.2 (HSa.out.setRow APg1.out) (by kernel_rfl) ?_
  replace Rq1 := Lib.hid (Rq1.out.setRow (C' := q1) HN.out (by decide))
  replace HG := Lib.hid ((HG.out.more HN.out NOg1.out).putAt GEg1.out APg1.out q1)
  clear HN HSa
  generalize World.setRow _ g1 q1 = t1 at *
  refine sq_ps [(9, .bool bi)] (by kernel_rfl) ?_
  refine sq_fin { tmps := List.toArray ([.agg (jaC (.slice A1 n1 c1) (.slice A2 n2 c2) (.slice A3 n3 c3) (.slice A4 n4 c4) (.slice A5 n5 c5) (.slice A6 n6 c6)), .slice pA pn pc, .pointer (some ⟨w.heap.size, 0, none⟩), undef, .pointer (some ⟨(w.heap.size + 1), 0, none⟩), .pointer (some ⟨g1, 0, none⟩), .bool bi, undef, .pointer (some ⟨w.heap.size, 4, none⟩), .agg #[.slice A5 n5 c5, .slice A6 n6 c6], .bool false, undef, .tuple #[.agg q1, .bool bi], .pointer (some ⟨w.heap.size, 4, none⟩), .agg #[.slice A5 n5 c5, .slice A6 n6 c6], .slice pA pn pc, .tuple #[.agg q1, .bool bi], .agg q1, .bool bi, undef, undef, undef, undef, undef, undef, undef, undef, undef, undef, undef, undef, undef, undef, undef, undef, undef, undef]), defers := [] } (by kernel_rfl) ?_
  refine (by assumption : ∀ (a : Act) (w_1 : World), Code.wp _ _ _ a w_1 → _) _ _ ?_
  go_upto_region 4 with (fail)
  have HS2 := Lib.hid HG.out.h
  refine wp_region_line (S := fun w' => Held w' [(g1, q1, 56), (w.heap.size, jaC (.slice A1 n1 c1) (.slice A2 n2 c2) (.slice A3 n3 c3) (.slice A4 n4 c4) (.slice A5 n5 c5) (.slice A6 n6 c6), 125)]) [(true, 0), (true, 1), (true, 2), (false, 3), (false, 4), (false, 5)] (by kernel_rfl) (by kernel_rfl) HS2.out ?_
  refine sq_ld (some 19) (ld_var (.head _) Zq1.out.1) (by kernel_rfl) ?_
  refine sq_ld (some 20) (ld_var (.head _) Zq1.out.1) (by kernel_rfl) ?_
  refine sq_ps [(2, .slice pA pn pc)] (by kernel_rfl) ?_
  refine sq_c (some 22) Tryz.func59 (lmul7_x Rq1.out Rq1.out (HP.out.below HG.out.b) Iq1.out Iq1.out HI.out.1) (by kernel_rfl) ?_
  rintro e v3 ⟨y3, rfl, k3, bw3⟩
  obtain ⟨q2, rfl⟩ := k3.q
  have Zq2 := Lib.hid k3.arr
  have Rq2 := Lib.hid k3
  replace Rq1 := Lib.hid (Rq1.out.below bw3)
  clear k3
  have Iq2 := Lib.hid (show InP2 n (mulP n X1 X1) from (mulP_in HI.out.2.2 _ _))
  obtain ⟨X2, hX2⟩ : ∃ X, mulP n X1 X1 = X := ⟨_, rfl⟩
  rw [hX2] at Rq2 Iq2
  have EX2 := Lib.hid hX2
  clear hX2
  replace HG := Lib.hid (HG.out.on bw3)
  have HS3 := Lib.hid HG.out.h
  refine ⟨_, rfl, HS3.out, ?_⟩
  have APg2 := Lib.hid HG.out.h.apart
  have GEg2 := Lib.hid HG.out.b.size
  have NOg2 := Lib.hid HG.out.new_ne
  have HN := Lib.hid (heap_alloc_new v3 (.cells #[.slice none 0 0, .slice none 0 0] 56))
  have bz := (Below.refl v3.heap.size v3).alloc (Nat.le_refl _) (.cells #[.slice none 0 0, .slice none 0 0] 56)
  replace HG := Lib.hid (HG.out.on bz)
  replace Rq1 := Lib.hid (Rq1.out.below bz)
  replace Rq2 := Lib.hid (Rq2.out.below bz)
  have HSa := Lib.hid HG.out.h
  refine sq_alloc (some 7) 56 #[.slice none 0 0, .slice none 0 0] (by kernel_rfl) (by kernel_rfl) (by kernel_rfl) (by kernel_rfl) (zero_7 _) HSa.out ?_
  clear bz
  generalize v3.alloc _ = u2 at *
  generalize v3.heap.size = g2 at *
  refine sq_st 56 g2 q2 HN.out (by rw [Zq2.out.1]; exact Tryz.info7) (by rw [Zq2.out.1]; rfl) Zq2.out.2 (HSa.out.setRow APg2.out) (by kernel_rfl) ?_
  replace Rq1 := Lib.hid (Rq1.out.setRow (C' := q2) HN.out (by decide))
  replace Rq2 := Lib.hid (Rq2.out.setRow (C' := q2) HN.out (by decide))
  replace HG := Lib.hid ((HG.out.more HN.out NOg2.out).putAt GEg2.out APg2.out q2)
  clear HN HSa
  generalize World.setRow _ g2 q2 = t2 at *
  refine sq_fin { tmps := List.toArray ([.agg (jaC (.slice A1 n1 c1) (.slice A2 n2 c2) (.slice A3 n3 c3) (.slice A4 n4 c4) (.slice A5 n5 c5) (.slice A6 n6 c6)), .slice pA pn pc, .pointer (some ⟨w.heap.size, 0, none⟩), undef, .pointer (some ⟨(w.heap.size + 1), 0, none⟩), .pointer (some ⟨g1, 0, none⟩), .bool bi, .pointer (some ⟨g2, 0, none⟩), .pointer (some ⟨w.heap.size, 4, none⟩), .agg #[.slice A5 n5 c5, .slice A6 n6 c6], .bool false, undef, .tuple #[.agg q1, .bool bi], .pointer (some ⟨w.heap.size, 4, none⟩), .agg #[.slice A5 n5 c5, .slice A6 n6 c6], .slice pA pn pc, .tuple #[.agg q1, .bool bi], .agg q1, .bool bi, .agg q1, .agg q1, .slice pA pn pc, .agg q2, undef, undef, undef, undef, undef, undef, undef, undef, undef, undef, undef, undef, undef, undef]), defers := [] } (by kernel_rfl) ?_
  refine (by assumption : ∀ (a : Act) (w_1 : World), Code.wp _ _ _ a w_1 → _) _ _ ?_
  go_upto_region 5 with (fail)
  replace HG := Lib.hid HG.out.drew
  replace Rq2 := Lib.hid (Rq2.out.below (bd7 _))
  replace Rq1 := Lib.hid (Rq1.out.below (bd7 _))
  have HS4 := Lib.hid HG.out.h
  refine sq_go (S := fun w' => Held w' [(g2, q2, 56), (g1, q1, 56), (w.heap.size, jaC (.slice A1 n1 c1) (.slice A2 n2 c2) (.slice A3 n3 c3) (.slice A4 n4 c4) (.slice A5 n5 c5) (.slice A6 n6 c6), 125)]) [(true, 0), (true, 1), (true, 2), (true, 3), (true, 5), (true, 6), (true, 7), (true, 8), (true, 9), (true, 11), (false, 4), (false, 10), (false, 12), (true, 13), (false, 14)] (by kernel_rfl) (fun d _ _ _ _ h => by cases d <;> exact h) HS4.out ?_
  refine sq_ps [(0, .pointer (some ⟨w.heap.size, 0, none⟩))] (by kernel_rfl) ?_
  refine sq_ld (some 24) (ld_mid (k := 0) (.tail _ (.tail _ (.head _))) rfl rfl) (by kernel_rfl) ?_
  refine sq_ld (some 25) (ld_var (.head _) Zq2.out.1) (by kernel_rfl) ?_
  refine sq_ps [(3, .slice pA pn pc), (5, .pointer (some ⟨w.heap.size, 2, none⟩))] (by kernel_rfl) ?_
  refine sq_ld (some 29) (ld_mid (k := 2) (.tail _ (.tail _ (.head _))) rfl rfl) (by kernel_rfl) ?_
  refine sq_ld (some 30) (ld_var (.head _) Zq2.out.1) (by kernel_rfl) ?_
  refine sq_ld (some 31) (ld_var (.tail _ (.head _)) Zq1.out.1) (by kernel_rfl) ?_
  refine sq_ps [(9, .slice pA pn pc), (11, .slice pA pn pc)] (by kernel_rfl) ?_
  refine sq_c (some 27) Tryz.func59 (lmul7_x (HX.out.below HG.out.b) Rq2.out (HP.out.below HG.out.b) HI.out.2.1.1 Iq2.out HI.out.1) (by kernel_rfl) ?_
  rintro e v5 ⟨y5, rfl, k5, bw5⟩
  obtain ⟨q3, rfl⟩ := k5.q
  have Rq3 := Lib.hid k5
  replace Rq2 := Lib.hid (Rq2.out.below bw5)
  replace Rq1 := Lib.hid (Rq1.out.below bw5)
  clear k5
  have Iq3 := Lib.hid (show InP2 n (mulP n x X2) from (mulP_in HI.out.2.2 _ _))
  obtain ⟨X3, hX3⟩ : ∃ X, mulP n x X2 = X := ⟨_, rfl⟩
  rw [hX3] at Rq3 Iq3
  have EX3 := Lib.hid hX3
  clear hX3
  replace HG := Lib.hid (HG.out.on bw5)
  have HS5 := Lib.hid HG.out.h
  refine ⟨_, rfl, HS5.out, ?_⟩
  refine sq_c (some 33) Tryz.func59 (lmul7_x Rq2.out Rq1.out (HP.out.below HG.out.b) Iq2.out Iq1.out HI.out.1) (by kernel_rfl) ?_
  rintro e v6 ⟨y6, rfl, k6, bw6⟩
  obtain ⟨q4, rfl⟩ := k6.q
  have Rq4 := Lib.hid k6
  replace Rq2 := Lib.hid (Rq2.out.below bw6)
  replace Rq1 := Lib.hid (Rq1.out.below bw6)
  replace Rq3 := Lib.hid (Rq3.out.below bw6)
  clear k6
  have Iq4 := Lib.hid (show InP2 n (mulP n X2 X1) from (mulP_in HI.out.2.2 _ _))
  obtain ⟨X4, hX4⟩ : ∃ X, mulP n X2 X1 = X := ⟨_, rfl⟩
  rw [hX4] at Rq4 Iq4
  have EX4 := Lib.hid hX4
  clear hX4
  replace HG := Lib.hid (HG.out.on bw6)
  have HS6 := Lib.hid HG.out.h
  refine ⟨_, rfl, HS6.out, ?_⟩
  refine sq_c (some 35) Tryz.func59 (lmul7_x (HY.out.below HG.out.b) Rq4.out (HP.out.below HG.out.b) HI.out.2.1.2.1 Iq4.out HI.out.1) (by kernel_rfl) ?_
  rintro e v7 ⟨y7, rfl, k7, bw7⟩
  obtain ⟨q5, rfl⟩ := k7.q
  have Rq5 := Lib.hid k7
  replace Rq2 := Lib.hid (Rq2.out.below bw7)
  replace Rq1 := Lib.hid (Rq1.out.below bw7)
  replace Rq3 := Lib.hid (Rq3.out.below bw7)
  replace Rq4 := Lib.hid (Rq4.out.below bw7)
  clear k7
  have Iq5 := Lib.hid (show InP2 n (mulP n y X4) from (mulP_in HI.out.2.2 _ _))
  obtain ⟨X5, hX5⟩ : ∃ X, mulP n y X4 = X := ⟨_, rfl⟩
  rw [hX5] at Rq5 Iq5
  have EX5 := Lib.hid hX5
  clear hX5
  replace HG := Lib.hid (HG.out.on bw7)
  obtain ⟨x1, x2, eq3, x1h, x2h⟩ := Rq3.out
  injection eq3 with eq3
  subst eq3
  obtain ⟨Ax1, nx1, cx1, rfl⟩ := x1h.shape
  obtain ⟨Ax2, nx2, cx2, rfl⟩ := x2h.shape
  obtain ⟨y1, y2, eq5, y1h, y2h⟩ := Rq5.out
  injection eq5 with eq5
  subst eq5
  obtain ⟨Ay1, ny1, cy1, rfl⟩ := y1h.shape
  obtain ⟨Ay2, ny2, cy2, rfl⟩ := y2h.shape
  have HS7 := Lib.hid HG.out.h
  refine ⟨_, rfl, HS7.out, ?_⟩
  refine sq_pure (some 36) (.agg (ptC false (.slice Ax1 nx1 cx1) (.slice Ax2 nx2 cx2) (.slice Ay1 ny1 cy1) (.slice Ay2 ny2 cy2))) (by kernel_rfl) (by kernel_rfl) (held_build 58 #[(1, (.tmp 27)), (2, (.tmp 35))] (by kernel_rfl) _ (by kernel_rfl) _ (built_10xy _ _ _ _)) ?_
  have HE := Lib.hid (HG.out.put (show w.heap.size ≤ (w.heap.size + 1) by omega) (ptC false (.slice Ax1 nx1 cx1) (.slice Ax2 nx2 cx2) (.slice Ay1 ny1 cy1) (.slice Ay2 ny2 cy2)))
  have HO := Lib.hid HG.out.out
  refine sq_st 58 (w.heap.size + 1) (ptC false (.slice Ax1 nx1 cx1) (.slice Ax2 nx2 cx2) (.slice Ay1 ny1 cy1) (.slice Ay2 ny2 cy2)) HO.out Tryz.infoPt10 rfl (by kernel_rfl) (HS7.out.setRow HG.out.ne) (by kernel_rfl) ?_
  refine sq_done ?_
  refine (by assumption : ∀ (a : Act) (w_1 : World), Code.wp _ Code.ret _ a w_1 → _) _ _ ?_
  refine wp_ret ?_
  have eT : outJ n x y z = (X3, X5) := by
    unfold outJ
    simp only [EX1.out, EX2.out, EX3.out, EX4.out, EX5.out]
  exact bodyPost_ret (results_cell_row Tryz.results114 _ _ ((w.heap.size + 1)) _ _ _ _ (by kernel_rfl) HE.out.out Tryz.underlying58 rfl Tryz.infoPt10) (by kernel_rfl) ⟨_, rfl, by rw [eT]; exact PtX.of (PairX.setRow ⟨_, _, rfl, x1h, x2h⟩ HO.out (by decide)) (PairX.setRow ⟨_, _, rfl, y1h, y2h⟩ HO.out (by decide)), HE.out.b⟩
/-- A point in three pairs as one in two. -/
def toJ (n : Nat) (J : Pn × Pn × Pn) : P2 := if J.2.2 = (0, 0) then none else some (outJ n J.1 J.2.1 J.2.2)
theorem lout12_x {w : World} {v vp : Value} {J : Pn × Pn × Pn} {n : Nat} (h : JacX w v J) (hp : RowX w vp n) (i1 : InP2 n J.1) (i2 : InP2 n J.2.1) (i3 : InP2 n J.2.2) (hn : n < GB) (hn1 : 1 < n) : Calls Tryz.prog 114 #[v, vp] w (PtTo (toJ n J) w) := by
  obtain ⟨x1, x2, y1, y2, z1, z2, rfl, ⟨_, _, e1, a1, a2⟩, ⟨_, _, e2, b1, b2⟩, ⟨_, _, e3, d1, d2⟩⟩ := h
  injection e1 with e1
  injection e2 with e2
  injection e3 with e3
  simp only [Array.mk.injEq, List.cons.injEq, and_true] at e1 e2 e3
  obtain ⟨rfl, rfl⟩ := e1
  obtain ⟨rfl, rfl⟩ := e2
  obtain ⟨rfl, rfl⟩ := e3
  obtain ⟨A1, n1, c1, rfl⟩ := a1.shape
  obtain ⟨A2, n2, c2, rfl⟩ := a2.shape
  obtain ⟨A3, n3, c3, rfl⟩ := b1.shape
  obtain ⟨A4, n4, c4, rfl⟩ := b2.shape
  obtain ⟨A5, n5, c5, rfl⟩ := d1.shape
  obtain ⟨A6, n6, c6, rfl⟩ := d2.shape
  unfold toJ
  by_cases z0 : J.2.2 = (0, 0)
  · rw [if_pos z0]
    exact out_z ⟨_, _, rfl, a1, a2⟩ ⟨_, _, rfl, b1, b2⟩ ⟨_, _, rfl, d1, d2⟩ hp i1 i2 i3 hn hn1 z0
  · rw [if_neg z0]
    exact out_main ⟨_, _, rfl, a1, a2⟩ ⟨_, _, rfl, b1, b2⟩ ⟨_, _, rfl, d1, d2⟩ hp i1 i2 i3 hn hn1 z0
/-- All three pairs within their bound. -/
def InJ (n : Nat) (J : Pn × Pn × Pn) : Prop := InP2 n J.1 ∧ InP2 n J.2.1 ∧ InP2 n J.2.2
theorem inJ_none {n : Nat} (h : 0 < n) : InJ n ((0, 0), (0, 0), (0, 0)) := ⟨⟨h, h⟩, ⟨h, h⟩, ⟨h, h⟩⟩
theorem outJ_in {n : Nat} (h : 0 < n) (x y z : Pn) : InP2 n (outJ n x y z).1 ∧ InP2 n (outJ n x y z).2 := ⟨mulP_in h _ _, mulP_in h _ _⟩
end Go.Proofs.YtkmmlfocidfghaaGreat

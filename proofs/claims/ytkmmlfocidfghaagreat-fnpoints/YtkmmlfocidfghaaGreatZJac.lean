import Derived.Test.YtkmmlfocidfghaaGreatZPoint
namespace Go.Proofs.YtkmmlfocidfghaaGreat
open Go.RowKit
def jaC (x1 x2 y1 y2 z1 z2 : Value) : Array Value := #[x1, x2, y1, y2, z1, z2]
theorem Tryz.infoJac : (Tryz.prog.info? 125).map (·.size) = some 6 := by kernel_rfl
theorem Tryz.partsJac : (structParts Tryz.prog 125).map (fun q => (q.1.cells.toList, q.2)) = some ([.slice none 0 0, .slice none 0 0, .slice none 0 0, .slice none 0 0, .slice none 0 0, .slice none 0 0], [(0, 2), (2, 2), (4, 2)]) := by kernel_rfl
def JacX (w : World) (v : Value) (J : Pn × Pn × Pn) : Prop := ∃ x1 x2 y1 y2 z1 z2, v = .agg (jaC x1 x2 y1 y2 z1 z2) ∧ PairX w (.agg #[x1, x2]) J.1 ∧ PairX w (.agg #[y1, y2]) J.2.1 ∧ PairX w (.agg #[z1, z2]) J.2.2
def JacTo (J : Pn × Pn × Pn) (w : World) (e : Ending) (w' : World) : Prop := ∃ v, e = .returned v ∧ JacX w' v J ∧ Below w.heap.size w w'
theorem built_ja (x1 x2 y1 y2 z1 z2 : Value) : Tryz.prog.built 125 [(0, .agg #[x1, x2]), (1, .agg #[y1, y2]), (2, .agg #[z1, z2])] = some (jaC x1 x2 y1 y2 z1 z2) := by
  cases hq : structParts Tryz.prog 125 with
  | none => have e := Tryz.partsJac; rw [hq] at e; cases e
  | some q =>
    obtain ⟨z0, pl⟩ := q
    have e := Tryz.partsJac
    rw [hq] at e
    simp only [Option.map_some, Option.some.injEq, Prod.mk.injEq] at e
    obtain ⟨e1, rfl⟩ := e
    rw [built_parts hq]
    have ez : z0.cells = #[] ++ #[.slice none 0 0, .slice none 0 0] ++ #[.slice none 0 0, .slice none 0 0, .slice none 0 0, .slice none 0 0] := by
      apply Array.toList_inj.1
      rw [e1]
      rfl
    rw [ez, fill_step (R := #[x1, x2]) (off := 0) (n := 2) rfl rfl rfl rfl rfl]
    rw [show (#[] ++ #[x1, x2] ++ #[.slice none 0 0, .slice none 0 0, .slice none 0 0, .slice none 0 0] : Array Value) = #[x1, x2] ++ #[.slice none 0 0, .slice none 0 0] ++ #[.slice none 0 0, .slice none 0 0] from rfl, fill_step (R := #[y1, y2]) (off := 2) (n := 2) rfl rfl rfl rfl rfl]
    rw [show (#[x1, x2] ++ #[y1, y2] ++ #[.slice none 0 0, .slice none 0 0] : Array Value) = #[x1, x2, y1, y2] ++ #[.slice none 0 0, .slice none 0 0] ++ #[] from rfl, fill_step (R := #[z1, z2]) (off := 4) (n := 2) rfl rfl rfl rfl rfl]
    rfl
theorem built_j0 : Tryz.prog.built 125 [] = some #[.slice none 0 0, .slice none 0 0, .slice none 0 0, .slice none 0 0, .slice none 0 0, .slice none 0 0] := by
  cases hq : structParts Tryz.prog 125 with
  | none => have e := Tryz.partsJac; rw [hq] at e; cases e
  | some q =>
    obtain ⟨z0, pl⟩ := q
    have e := Tryz.partsJac
    rw [hq] at e
    simp only [Option.map_some, Option.some.injEq, Prod.mk.injEq] at e
    obtain ⟨e1, rfl⟩ := e
    rw [built_parts hq]
    have ez : z0.cells = #[.slice none 0 0, .slice none 0 0, .slice none 0 0, .slice none 0 0, .slice none 0 0, .slice none 0 0] := by
      apply Array.toList_inj.1
      rw [e1]
    rw [ez]
    rfl
theorem jac_none (w : World) : JacX w (.agg #[.slice none 0 0, .slice none 0 0, .slice none 0 0, .slice none 0 0, .slice none 0 0, .slice none 0 0]) ((0, 0), (0, 0), (0, 0)) := ⟨_, _, _, _, _, _, rfl, ⟨_, _, rfl, row_nil w, row_nil w⟩, ⟨_, _, rfl, row_nil w, row_nil w⟩, ⟨_, _, rfl, row_nil w, row_nil w⟩⟩
set_option maxRecDepth 8000 in
set_option maxHeartbeats 4000000 in
theorem twice_z {w : World} {vp : Value} {z : Pn} {A1 A2 A3 A4 A5 A6 : Option Addr} {n1 c1 n2 c2 n3 c3 n4 c4 n5 c5 n6 c6 : Nat} {n : Nat} (hz : PairX w (.agg #[.slice A5 n5 c5, .slice A6 n6 c6]) z) (hp : RowX w vp n) (z0 : z = (0, 0)) :
    Calls Tryz.prog 140 #[.agg (jaC (.slice A1 n1 c1) (.slice A2 n2 c2) (.slice A3 n3 c3) (.slice A4 n4 c4) (.slice A5 n5 c5) (.slice A6 n6 c6)), vp] w (JacTo ((0, 0), (0, 0), (0, 0)) w) := by
  obtain ⟨pA, pn, pc, rfl⟩ := hp.shape
  have HZ := Lib.hid hz
  have HZ0 := Lib.hid (decide_eq_true z0)
  have HG := Lib.hid (begun2 (Held.none w) (jaC (.slice A1 n1 c1) (.slice A2 n2 c2) (.slice A3 n3 c3) (.slice A4 n4 c4) (.slice A5 n5 c5) (.slice A6 n6 c6)) #[.slice none 0 0, .slice none 0 0, .slice none 0 0, .slice none 0 0, .slice none 0 0, .slice none 0 0] 125 125)
  clear hz hp z0
  go_enter Tryz.func140, Tryz.ntmps140
  go_upto_region 1 with (fail)
  generalize (w.alloc _).alloc _ = v0 at *
  have HS := Lib.hid HG.out.h
  refine wp_region_line (S := fun w' => Held w' [(w.heap.size, jaC (.slice A1 n1 c1) (.slice A2 n2 c2) (.slice A3 n3 c3) (.slice A4 n4 c4) (.slice A5 n5 c5) (.slice A6 n6 c6), 125)]) [(true, 0), (true, 1), (false, 2), (true, 3), (true, 4), (true, 5), (true, 6), (true, 7)] (by kernel_rfl) (by kernel_rfl) HS.out ?_
  refine SQ.out ?_
  refine g_ps [(0, .pointer (some ⟨w.heap.size, 4, none⟩))] (by kernel_rfl) ?_
  refine g_ld (some 13) (ld_mid (k := 4) (.head _) rfl rfl) (by kernel_rfl) ?_
  refine g_c (some 14) Tryz.func138 (lzero7_x (HZ.out.below HG.out.b)) (by kernel_rfl) ?_
  rintro e v1 ⟨he, bw1⟩
  rw [HZ0.out] at he
  subst he
  replace HG := Lib.hid (HG.out.on bw1)
  have HS1 := Lib.hid HG.out.h
  refine ⟨_, rfl, HS1.out, ?_⟩
  refine g_ps [(3, .bool true)] (by kernel_rfl) ?_
  refine g_no [4, 5, 6] (by kernel_rfl) ?_
  refine g_ps [(7, .bool true)] (by kernel_rfl) ?_
  refine g_norm { tmps := List.toArray (List.append [.agg (jaC (.slice A1 n1 c1) (.slice A2 n2 c2) (.slice A3 n3 c3) (.slice A4 n4 c4) (.slice A5 n5 c5) (.slice A6 n6 c6)), .slice pA pn pc, .pointer (some ⟨w.heap.size, 0, none⟩), undef, .pointer (some ⟨(w.heap.size + 1), 0, none⟩), undef, undef, undef, undef, undef, undef, undef, .pointer (some ⟨w.heap.size, 4, none⟩), .agg #[.slice A5 n5 c5, .slice A6 n6 c6], .bool true, .bool true, undef, undef, undef, .bool true, undef, undef, undef, undef, undef, undef, undef, undef, undef, undef, undef, undef, undef, undef, undef, undef, undef, undef, undef, undef] (List.append [undef, undef, undef, undef, undef, undef, undef, undef, undef, undef, undef, undef, undef, undef, undef, undef, undef, undef, undef, undef, undef, undef, undef, undef, undef, undef, undef, undef, undef, undef, undef, undef, undef, undef, undef, undef, undef, undef, undef, undef] ([undef, undef, undef, undef, undef, undef, undef, undef, undef, undef, undef, undef, undef, undef, undef, undef, undef, undef, undef, undef, undef]))), defers := [] } (by kernel_rfl) ?_
  refine g_done ?_
  refine (by assumption : ∀ (a : Act) (w_1 : World), Code.wp _ _ _ a w_1 → _) _ _ ?_
  clear HS
  go_upto_region 2 with (fail)
  have HS := Lib.hid HG.out.h
  refine wp_region_line (S := fun w' => Held w' [(w.heap.size, jaC (.slice A1 n1 c1) (.slice A2 n2 c2) (.slice A3 n3 c3) (.slice A4 n4 c4) (.slice A5 n5 c5) (.slice A6 n6 c6), 125)]) [(true, 0), (false, 1)] (by kernel_rfl) (by kernel_rfl) HS.out ?_
  refine sq_pure (some 20) (.agg #[.slice none 0 0, .slice none 0 0, .slice none 0 0, .slice none 0 0, .slice none 0 0, .slice none 0 0]) (by kernel_rfl) (by kernel_rfl) (held_build 125 #[] (by kernel_rfl) _ (by kernel_rfl) _ built_j0) ?_
  have HE := Lib.hid (HG.out.put (show w.heap.size ≤ (w.heap.size + 1) by omega) #[.slice none 0 0, .slice none 0 0, .slice none 0 0, .slice none 0 0, .slice none 0 0, .slice none 0 0])
  have HO := Lib.hid HG.out.out
  refine sq_st 125 (w.heap.size + 1) #[.slice none 0 0, .slice none 0 0, .slice none 0 0, .slice none 0 0, .slice none 0 0, .slice none 0 0] HO.out Tryz.infoJac rfl (by kernel_rfl) (HS.out.setRow HG.out.ne) (by kernel_rfl) ?_
  refine sq_done ?_
  refine (by assumption : ∀ (a : Act) (w_1 : World), Code.wp _ Code.ret _ a w_1 → _) _ _ ?_
  refine wp_ret ?_
  exact bodyPost_ret (results_cell_row Tryz.results140 _ _ ((w.heap.size + 1)) _ _ _ _ (by kernel_rfl) HE.out.out Tryz.underlying125 rfl Tryz.infoJac) (by kernel_rfl) ⟨_, rfl, jac_none _, HE.out.b⟩
set_option maxRecDepth 8000 in
set_option maxHeartbeats 4000000 in
theorem twice_y {w : World} {vp : Value} {y z : Pn} {A1 A2 A3 A4 A5 A6 : Option Addr} {n1 c1 n2 c2 n3 c3 n4 c4 n5 c5 n6 c6 : Nat} {n : Nat} (hy : PairX w (.agg #[.slice A3 n3 c3, .slice A4 n4 c4]) y) (hz : PairX w (.agg #[.slice A5 n5 c5, .slice A6 n6 c6]) z) (hp : RowX w vp n) (y0 : y = (0, 0)) (z0 : z ≠ (0, 0)) :
    Calls Tryz.prog 140 #[.agg (jaC (.slice A1 n1 c1) (.slice A2 n2 c2) (.slice A3 n3 c3) (.slice A4 n4 c4) (.slice A5 n5 c5) (.slice A6 n6 c6)), vp] w (JacTo ((0, 0), (0, 0), (0, 0)) w) := by
  obtain ⟨pA, pn, pc, rfl⟩ := hp.shape
  have HY := Lib.hid hy
  have HZ := Lib.hid hz
  have HY0 := Lib.hid (decide_eq_true y0)
  have HZ0 := Lib.hid (decide_eq_false z0)
  have HG := Lib.hid (begun2 (Held.none w) (jaC (.slice A1 n1 c1) (.slice A2 n2 c2) (.slice A3 n3 c3) (.slice A4 n4 c4) (.slice A5 n5 c5) (.slice A6 n6 c6)) #[.slice none 0 0, .slice none 0 0, .slice none 0 0, .slice none 0 0, .slice none 0 0, .slice none 0 0] 125 125)
  clear hy y0 hz hp z0
  go_enter Tryz.func140, Tryz.ntmps140
  go_upto_region 1 with (fail)
  generalize (w.alloc _).alloc _ = v0 at *
  have HS := Lib.hid HG.out.h
  refine wp_region_line (S := fun w' => Held w' [(w.heap.size, jaC (.slice A1 n1 c1) (.slice A2 n2 c2) (.slice A3 n3 c3) (.slice A4 n4 c4) (.slice A5 n5 c5) (.slice A6 n6 c6), 125)]) [(true, 0), (true, 1), (false, 2), (true, 3), (true, 4), (true, 5), (false, 6), (true, 7)] (by kernel_rfl) (by kernel_rfl) HS.out ?_
  refine SQ.out ?_
  refine g_ps [(0, .pointer (some ⟨w.heap.size, 4, none⟩))] (by kernel_rfl) ?_
  refine g_ld (some 13) (ld_mid (k := 4) (.head _) rfl rfl) (by kernel_rfl) ?_
  refine g_c (some 14) Tryz.func138 (lzero7_x (HZ.out.below HG.out.b)) (by kernel_rfl) ?_
  rintro e v1 ⟨he, bw1⟩
  rw [HZ0.out] at he
  subst he
  replace HG := Lib.hid (HG.out.on bw1)
  have HS1 := Lib.hid HG.out.h
  refine ⟨_, rfl, HS1.out, ?_⟩
  refine g_ps [(3, .bool false), (4, .pointer (some ⟨w.heap.size, 2, none⟩))] (by kernel_rfl) ?_
  refine g_ld (some 17) (ld_mid (k := 2) (.head _) rfl rfl) (by kernel_rfl) ?_
  refine g_c (some 18) Tryz.func138 (lzero7_x (HY.out.below HG.out.b)) (by kernel_rfl) ?_
  rintro e v2 ⟨he, bw2⟩
  rw [HY0.out] at he
  subst he
  replace HG := Lib.hid (HG.out.on bw2)
  have HS2 := Lib.hid HG.out.h
  refine ⟨_, rfl, HS2.out, ?_⟩
  refine g_ps [(7, .bool true)] (by kernel_rfl) ?_
  refine g_norm { tmps := List.toArray (List.append [.agg (jaC (.slice A1 n1 c1) (.slice A2 n2 c2) (.slice A3 n3 c3) (.slice A4 n4 c4) (.slice A5 n5 c5) (.slice A6 n6 c6)), .slice pA pn pc, .pointer (some ⟨w.heap.size, 0, none⟩), undef, .pointer (some ⟨(w.heap.size + 1), 0, none⟩), undef, undef, undef, undef, undef, undef, undef, .pointer (some ⟨w.heap.size, 4, none⟩), .agg #[.slice A5 n5 c5, .slice A6 n6 c6], .bool false, .bool false, .pointer (some ⟨w.heap.size, 2, none⟩), .agg #[.slice A3 n3 c3, .slice A4 n4 c4], .bool true, .bool true, undef, undef, undef, undef, undef, undef, undef, undef, undef, undef, undef, undef, undef, undef, undef, undef, undef, undef, undef, undef] (List.append [undef, undef, undef, undef, undef, undef, undef, undef, undef, undef, undef, undef, undef, undef, undef, undef, undef, undef, undef, undef, undef, undef, undef, undef, undef, undef, undef, undef, undef, undef, undef, undef, undef, undef, undef, undef, undef, undef, undef, undef] ([undef, undef, undef, undef, undef, undef, undef, undef, undef, undef, undef, undef, undef, undef, undef, undef, undef, undef, undef, undef, undef]))), defers := [] } (by kernel_rfl) ?_
  refine g_done ?_
  refine (by assumption : ∀ (a : Act) (w_1 : World), Code.wp _ _ _ a w_1 → _) _ _ ?_
  clear HS
  go_upto_region 2 with (fail)
  have HS := Lib.hid HG.out.h
  refine wp_region_line (S := fun w' => Held w' [(w.heap.size, jaC (.slice A1 n1 c1) (.slice A2 n2 c2) (.slice A3 n3 c3) (.slice A4 n4 c4) (.slice A5 n5 c5) (.slice A6 n6 c6), 125)]) [(true, 0), (false, 1)] (by kernel_rfl) (by kernel_rfl) HS.out ?_
  refine sq_pure (some 20) (.agg #[.slice none 0 0, .slice none 0 0, .slice none 0 0, .slice none 0 0, .slice none 0 0, .slice none 0 0]) (by kernel_rfl) (by kernel_rfl) (held_build 125 #[] (by kernel_rfl) _ (by kernel_rfl) _ built_j0) ?_
  have HE := Lib.hid (HG.out.put (show w.heap.size ≤ (w.heap.size + 1) by omega) #[.slice none 0 0, .slice none 0 0, .slice none 0 0, .slice none 0 0, .slice none 0 0, .slice none 0 0])
  have HO := Lib.hid HG.out.out
  refine sq_st 125 (w.heap.size + 1) #[.slice none 0 0, .slice none 0 0, .slice none 0 0, .slice none 0 0, .slice none 0 0, .slice none 0 0] HO.out Tryz.infoJac rfl (by kernel_rfl) (HS.out.setRow HG.out.ne) (by kernel_rfl) ?_
  refine sq_done ?_
  refine (by assumption : ∀ (a : Act) (w_1 : World), Code.wp _ Code.ret _ a w_1 → _) _ _ ?_
  refine wp_ret ?_
  exact bodyPost_ret (results_cell_row Tryz.results140 _ _ ((w.heap.size + 1)) _ _ _ _ (by kernel_rfl) HE.out.out Tryz.underlying125 rfl Tryz.infoJac) (by kernel_rfl) ⟨_, rfl, jac_none _, HE.out.b⟩
end Go.Proofs.YtkmmlfocidfghaaGreat

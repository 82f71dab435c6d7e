/-
  The helpers of the exact laws over points: laws.szPoint, toPoint, eqPoint.
-/
import Derived.Test.YtkmmlfocidfghaaXPairs
import Derived.Test.YtkmmlfocidfghaaZPoint
namespace Go.Proofs.Ytkmmlfocidfghaa
open Go.RowKit

theorem Try.infoLPt : (Try.prog.info? 23).map (·.size) = some 3 := by kernel_rfl
theorem ld_lp {L : List (Nat × Array Value × TypeId)} {g : Nat} {C : Array Value} {t : TypeId} (hm : (g, C, t) ∈ L) (hs : Nat.beq C.size 3 = true) : ∀ w', Held w' L → (Instr.loadAt 23 (.pointer (some ⟨g, 0, none⟩))).run Try.prog w' = .ok (.agg C) w' :=
  fun w' hw => cells_load (hw _ hm) Try.underlying23 rfl (by rw [Nat.eq_of_beq_eq_true hs]; exact Try.infoLPt)
theorem zero_pt (w : World) : (zeroValue 26).run Try.prog w = .ok (.agg (tpT noT)) w := by kernel_rfl
def szT (q : Tp) (l : Int) : Int := szG q.2 l
theorem tpL_cells {w : World} {g : Nat} {t : TypeId} {q : Tp} (h : w.heap[g]? = some (.cells (tpT q) t (0, 0))) : w.cell? ⟨g, 0, none⟩ = some (.bool q.1) ∧ w.cell? ⟨g, 1, none⟩ = some (.string q.2.1) ∧ w.cell? ⟨g, 2, none⟩ = some (.string q.2.2) :=
  ⟨(cell_of_row w g 0 _ _ _ h).trans rfl, (cell_of_row w g 1 _ _ _ h).trans rfl, (cell_of_row w g 2 _ _ _ h).trans rfl⟩
set_option maxRecDepth 8000 in
set_option maxHeartbeats 2000000 in
theorem szPoint_any (x : Tp) (l : Int) (w : World) (hl : 0 ≤ l ∧ l ≤ 1048576) (s1 : x.2.1.size ≤ 9223372036854775807) (s2 : x.2.2.size ≤ 9223372036854775807) :
    Calls Try.prog 8 #[.agg (tpT x), .int .i64 l] w fun e w' => e = .returned (.int .i64 (szT x l)) ∧ Below w.heap.size w w' := by
  have HN := Lib.hid (stand1 w (tpT x) 23)
  obtain ⟨c0, c1, c2⟩ := tpL_cells (HN.out.h _ (.head _))
  obtain ⟨n1, h1⟩ : ∃ n, (x.2.1.size : Int) = n := ⟨_, rfl⟩
  obtain ⟨n2, h2⟩ : ∃ n, (x.2.2.size : Int) = n := ⟨_, rfl⟩
  have k1 : 0 ≤ n1 ∧ n1 ≤ 9223372036854775807 := by omega
  have k2 : 0 ≤ n2 ∧ n2 ≤ 9223372036854775807 := by omega
  have e1 : IntKind.i64.wrap (l - n1) = l - n1 := IntWalk.i64_in _ (by omega)
  unfold szT szG
  rw [h1, h2]
  by_cases d1 : l - n1 < 0
  · rw [if_pos d1]
    have d1' : l < n1 := by omega
    clear s1 s2
    go_enter Try.func8, Try.ntmps8
    go_wp2
    go_ret
    exact ⟨rfl, HN.out.b⟩
  · rw [if_neg d1]
    have e2 : IntKind.i64.wrap (l - n1 - n2) = l - n1 - n2 := IntWalk.i64_in _ (by omega)
    have d1' : ¬ l < n1 := by omega
    by_cases d2 : l - n1 - n2 < 0
    · rw [if_pos d2]
      clear s1 s2
      go_enter Try.func8, Try.ntmps8
      go_wp2
      go_ret
      exact ⟨rfl, HN.out.b⟩
    · rw [if_neg d2]
      clear s1 s2
      go_enter Try.func8, Try.ntmps8
      go_wp2
      go_ret
      exact ⟨rfl, HN.out.b⟩
set_option maxRecDepth 8000 in
set_option maxHeartbeats 2000000 in
theorem toPoint_any (x : Tp) (w : World) : Calls Try.prog 10 #[.agg (tpT x)] w fun e w' => e = .returned (.agg (tpT x)) ∧ Below w.heap.size w w' := by
  have HX2 := Lib.hid (heap_alloc2_old w (.cells (tpT x) 23) (.cells #[.bool false, .string ⟨#[]⟩, .string ⟨#[]⟩] 26))
  have HO2 := Lib.hid (heap_alloc2_new w (.cells (tpT x) 23) (.cells #[.bool false, .string ⟨#[]⟩, .string ⟨#[]⟩] 26))
  have HB2 := Lib.hid (((Below.refl w.heap.size w).alloc (Nat.le_refl _) (.cells (tpT x) 23)).alloc (by simp) (.cells #[.bool false, .string ⟨#[]⟩, .string ⟨#[]⟩] 26))
  have HS2 : Hid (((w.alloc (.cells (tpT x) 23)).alloc (.cells #[.bool false, .string ⟨#[]⟩, .string ⟨#[]⟩] 26)).heap.size = w.heap.size + 2) := by show _ = _; simp
  go_enter Try.func10, Try.ntmps10
  go_upto_region 1 with (fail)
  generalize (w.alloc (.cells (tpT x) 23)).alloc (.cells #[.bool false, .string ⟨#[]⟩, .string ⟨#[]⟩] 26) = w2 at *
  have hZ := heap_alloc_new w2 (.cells #[.bool false, .string ⟨#[]⟩, .string ⟨#[]⟩] 26)
  have bZ : Below w2.heap.size w2 (w2.alloc (.cells #[.bool false, .string ⟨#[]⟩, .string ⟨#[]⟩] 26)) := (Below.refl _ _).alloc (Nat.le_refl _) _
  have HX3 := Lib.hid (stays bZ HX2.out)
  have HO3 := Lib.hid (stays bZ HO2.out)
  have HB3 := Lib.hid (bt HB2.out bZ)
  rw [HS2.out] at hZ
  have HZ3 := Lib.hid hZ
  clear hZ bZ HX2 HO2 HB2
  go_upto_region 2 with (fail)
  rw [HS2.out]
  generalize w2.alloc (.cells #[.bool false, .string ⟨#[]⟩, .string ⟨#[]⟩] 26) = w3 at *
  clear HS2
  have c1 := (tpL_cells HX3.out).1
  have d1 := (cell_of_row w3 (w.heap.size + 2) 0 _ _ _ HZ3.out).trans (show _ = some (Value.bool false) from rfl)
  have f1 := frozen_of_row w3 (w.heap.size + 2) 0 _ _ HZ3.out
  go_upto_region 3 with (fail)
  have HX4 := Lib.hid ((Below.heap_setCell w3 ⟨w.heap.size + 2, 0, none⟩ (.bool x.1) w.heap.size (show w.heap.size ≠ w.heap.size + 2 by omega)).trans HX3.out)
  have HO4 := Lib.hid ((Below.heap_setCell w3 ⟨w.heap.size + 2, 0, none⟩ (.bool x.1) (w.heap.size + 1) (show w.heap.size + 1 ≠ w.heap.size + 2 by omega)).trans HO3.out)
  have HZ4 := Lib.hid (heap_setCell_same w3 (w.heap.size + 2) 0 _ _ (.bool x.1) HZ3.out)
  have HB4 := Lib.hid (HB3.out.setCell (p := ⟨w.heap.size + 2, 0, none⟩) (show w.heap.size ≤ w.heap.size + 2 by omega) (.bool x.1))
  generalize w3.setCell ⟨w.heap.size + 2, 0, none⟩ (.bool x.1) = w4 at *
  clear c1 d1 f1 HX3 HO3 HZ3 HB3
  have c1 := (tpL_cells HX4.out).2.1
  have d1 := (cell_of_row w4 (w.heap.size + 2) 1 _ _ _ HZ4.out).trans (show _ = some (Value.string ⟨#[]⟩) from rfl)
  have f1 := frozen_of_row w4 (w.heap.size + 2) 1 _ _ HZ4.out
  go_upto_region 4 with (fail)
  have HX5 := Lib.hid ((Below.heap_setCell w4 ⟨w.heap.size + 2, 1, none⟩ (.string x.2.1) w.heap.size (show w.heap.size ≠ w.heap.size + 2 by omega)).trans HX4.out)
  have HO5 := Lib.hid ((Below.heap_setCell w4 ⟨w.heap.size + 2, 1, none⟩ (.string x.2.1) (w.heap.size + 1) (show w.heap.size + 1 ≠ w.heap.size + 2 by omega)).trans HO4.out)
  have HZ5 := Lib.hid (heap_setCell_same w4 (w.heap.size + 2) 1 _ _ (.string x.2.1) HZ4.out)
  have HB5 := Lib.hid (HB4.out.setCell (p := ⟨w.heap.size + 2, 1, none⟩) (show w.heap.size ≤ w.heap.size + 2 by omega) (.string x.2.1))
  generalize w4.setCell ⟨w.heap.size + 2, 1, none⟩ (.string x.2.1) = w5 at *
  clear c1 d1 f1 HX4 HO4 HZ4 HB4
  have c1 := (tpL_cells HX5.out).2.2
  have d1 := (cell_of_row w5 (w.heap.size + 2) 2 _ _ _ HZ5.out).trans (show _ = some (Value.string ⟨#[]⟩) from rfl)
  have f1 := frozen_of_row w5 (w.heap.size + 2) 2 _ _ HZ5.out
  go_upto_region 5 with (fail)
  have HO6 := Lib.hid ((Below.heap_setCell w5 ⟨w.heap.size + 2, 2, none⟩ (.string x.2.2) (w.heap.size + 1) (show w.heap.size + 1 ≠ w.heap.size + 2 by omega)).trans HO5.out)
  have HZ6 : Hid ((w5.setCell ⟨w.heap.size + 2, 2, none⟩ (.string x.2.2)).heap[w.heap.size + 2]? = some (.cells (tpT x) 26 (0, 0))) := heap_setCell_same w5 (w.heap.size + 2) 2 _ _ (.string x.2.2) HZ5.out
  have HB6 := Lib.hid (HB5.out.setCell (p := ⟨w.heap.size + 2, 2, none⟩) (show w.heap.size ≤ w.heap.size + 2 by omega) (.string x.2.2))
  generalize w5.setCell ⟨w.heap.size + 2, 2, none⟩ (.string x.2.2) = w6 at *
  have HW := Lib.hid (below_setRow2 HB6.out (show w.heap.size ≤ w.heap.size + 1 by omega) (tpT x))
  have HR := Lib.hid (setRow_heap w6 (w.heap.size + 1) _ (tpT x) _ _ HO6.out)
  clear c1 d1 f1 HX5 HO5 HZ5 HB5
  go_wp2_with (first | refine load_v rfl 26 (.tmp 3) rfl (w.heap.size + 2) (tpT x) rfl HZ6.out Try.underlying26 rfl Try.infoPoint ?_ | refine store_v rfl 26 (.tmp 2) (.tmp 13) rfl (w.heap.size + 1) _ (tpT x) rfl rfl HO6.out Try.infoPoint rfl (by kernel_rfl) ?_)
  exact bodyPost_ret (results_cell_row Try.results10 _ _ (w.heap.size + 1) _ _ _ _ rfl HR.out Try.underlying26 rfl Try.infoPoint) rfl ⟨rfl, HW.out⟩
set_option maxRecDepth 8000 in
set_option maxHeartbeats 2000000 in
theorem eqPoint_same (x : Tp) (w : World) : Calls Try.prog 14 #[.agg (tpT x), .agg (tpT x)] w fun e w' => e = .returned (.bool true) ∧ Below w.heap.size w w' := by
  have HX2 := Lib.hid (heap_alloc2_old w (.cells (tpT x) 26) (.cells (tpT x) 26))
  have HO2 := Lib.hid (heap_alloc2_new w (.cells (tpT x) 26) (.cells (tpT x) 26))
  have HB2 := Lib.hid (((Below.refl w.heap.size w).alloc (Nat.le_refl _) (.cells (tpT x) 26)).alloc (by simp) (.cells (tpT x) 26))
  have q0 : (x.1 != x.1) = false := by simp
  go_enter Try.func14, Try.ntmps14
  go_upto_region 1 with (fail)
  generalize (w.alloc (.cells (tpT x) 26)).alloc (.cells (tpT x) 26) = w2 at *
  obtain ⟨c0, c1, c2⟩ := tpL_cells HX2.out
  obtain ⟨d0, d1, d2⟩ := tpL_cells HO2.out
  go_wp2
  go_ret
  exact ⟨rfl, HB2.out⟩
end Go.Proofs.Ytkmmlfocidfghaa

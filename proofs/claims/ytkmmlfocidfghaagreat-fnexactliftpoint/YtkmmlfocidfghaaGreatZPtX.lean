import Derived.Test.YtkmmlfocidfghaaGreatXPairs
import Derived.Test.YtkmmlfocidfghaaGreatZPoint
namespace Go.Proofs.YtkmmlfocidfghaaGreat
open Go.RowKit
theorem zero_pt (w : World) : (zeroValue 25).run Tryz.prog w = .ok (.agg (tpT noT)) w := by kernel_rfl
theorem tpL_cells {w : World} {g : Nat} {t : TypeId} {q : Tp} (h : w.heap[g]? = some (.cells (tpT q) t (0, 0))) : w.cell? ⟨g, 0, none⟩ = some (.bool q.1) ∧ w.cell? ⟨g, 1, none⟩ = some (.string q.2.1) ∧ w.cell? ⟨g, 2, none⟩ = some (.string q.2.2) :=
  ⟨(cell_of_row w g 0 _ _ _ h).trans rfl, (cell_of_row w g 1 _ _ _ h).trans rfl, (cell_of_row w g 2 _ _ _ h).trans rfl⟩
set_option maxRecDepth 8000 in
set_option maxHeartbeats 2000000 in
theorem eqPoint_same (x : Tp) (w : World) : Calls Tryz.prog 22 #[.agg (tpT x), .agg (tpT x)] w fun e w' => e = .returned (.bool true) ∧ Below w.heap.size w w' := by
  have HX2 := Lib.hid (heap_alloc2_old w (.cells (tpT x) 25) (.cells (tpT x) 25))
  have HO2 := Lib.hid (heap_alloc2_new w (.cells (tpT x) 25) (.cells (tpT x) 25))
  have HB2 := Lib.hid (((Below.refl w.heap.size w).alloc (Nat.le_refl _) (.cells (tpT x) 25)).alloc (by simp) (.cells (tpT x) 25))
  have q0 : (x.1 != x.1) = false := by simp
  go_enter Tryz.func22, Tryz.ntmps22
  go_upto_region 1 with (fail)
  generalize (w.alloc (.cells (tpT x) 25)).alloc (.cells (tpT x) 25) = w2 at *
  obtain ⟨c0, c1, c2⟩ := tpL_cells HX2.out
  obtain ⟨d0, d1, d2⟩ := tpL_cells HO2.out
  go_wp2
  go_ret
  exact ⟨rfl, HB2.out⟩
end Go.Proofs.YtkmmlfocidfghaaGreat

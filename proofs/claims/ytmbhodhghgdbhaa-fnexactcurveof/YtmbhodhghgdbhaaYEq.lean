import Derived.Test.YtmbhodhghgdbhaaYCurve
import Derived.Test.YtmbhodhghgdbhaaXPairs
namespace Go.Proofs.Ytmbhodhghgdbhaa
open Go.RowKit
structure Nine (w : World) (g : Nat) (n p r b k1 k2 : ByteArray) (sz sc : Int) (br : Bool) : Prop where
  c0 : w.cell? ⟨g, 0, none⟩ = some (.string n)
  c1 : w.cell? ⟨g, 1, none⟩ = some (.string p)
  c2 : w.cell? ⟨g, 2, none⟩ = some (.string r)
  c3 : w.cell? ⟨g, 3, none⟩ = some (.string b)
  c4 : w.cell? ⟨g, 4, none⟩ = some (.string k1)
  c5 : w.cell? ⟨g, 5, none⟩ = some (.string k2)
  c6 : w.cell? ⟨g, 6, none⟩ = some (.int .i64 sz)
  c7 : w.cell? ⟨g, 7, none⟩ = some (.int .i64 sc)
  c8 : w.cell? ⟨g, 8, none⟩ = some (.bool br)
theorem nine {w : World} {g : Nat} {id : Int} (h : w.heap[g]? = some (.cells (cvC id) 28 (0, 0))) : Nine w g (cvNT id) (cvPT id) (cvRT id) (cvBT id) (cvKT id).1 (cvKT id).2 (cvSz id) (cvSc id) (cvBr id) := by
  rw [cvC_eq] at h
  exact ⟨(cell_of_row w g 0 _ _ _ h).trans rfl, (cell_of_row w g 1 _ _ _ h).trans rfl, (cell_of_row w g 2 _ _ _ h).trans rfl, (cell_of_row w g 3 _ _ _ h).trans rfl, (cell_of_row w g 4 _ _ _ h).trans rfl, (cell_of_row w g 5 _ _ _ h).trans rfl, (cell_of_row w g 6 _ _ _ h).trans rfl, (cell_of_row w g 7 _ _ _ h).trans rfl, (cell_of_row w g 8 _ _ _ h).trans rfl⟩
set_option maxRecDepth 8000 in
set_option maxHeartbeats 4000000 in
theorem eqCurve_same (id : Int) (w : World) : Calls Try.prog 26 #[.agg (cvC id), .agg (cvC id)] w fun e w' => e = .returned (.bool true) ∧ Below w.heap.size w w' := by
  have HN := Lib.hid (fun w g h => nine (w := w) (g := g) (id := id) h)
  have HE := Lib.hid (eqPair_same (cvKT id))
  have HX := Lib.hid (heap_alloc2_old w (.cells (cvC id) 28) (.cells (cvC id) 28))
  have HO := Lib.hid (heap_alloc2_new w (.cells (cvC id) 28) (.cells (cvC id) 28))
  have HB := Lib.hid (((Below.refl w.heap.size w).alloc (Nat.le_refl _) (.cells (cvC id) 28)).alloc (by simp) (.cells (cvC id) 28))
  unfold aggT at HE
  generalize cvC id = C at *
  generalize cvNT id = n at *
  generalize cvPT id = p at *
  generalize cvRT id = r at *
  generalize cvBT id = b at *
  generalize (cvKT id).1 = k1 at *
  generalize (cvKT id).2 = k2 at *
  generalize cvSz id = sz at *
  generalize cvSc id = sc at *
  generalize cvBr id = br at *
  have q1 : (sz != sz) = false := by simp
  have q2 : (sc != sc) = false := by simp
  have q3 : (br != br) = false := by simp
  go_enter Try.func26, Try.ntmps26
  go_upto_region 1 with (fail)
  generalize (w.alloc _).alloc _ = w2 at *
  obtain ⟨c0, c1, c2, c3, c4, c5, c6, c7, c8⟩ := HN.out _ _ HX.out
  obtain ⟨d0, d1, d2, d3, d4, d5, d6, d7, d8⟩ := HN.out _ _ HO.out
  go_wp2_with fail
  refine (HE.out _).mono ?_
  rintro e w3 ⟨rfl, b3⟩
  have HB3 := Lib.hid (bt HB.out b3)
  have HX3 := Lib.hid (stays b3 HX.out)
  have HO3 := Lib.hid (stays b3 HO.out)
  clear c0 c1 c2 c3 c4 c5 c6 c7 c8 d0 d1 d2 d3 d4 d5 d6 d7 d8 b3 HB HX HO HE
  obtain ⟨c0, c1, c2, c3, c4, c5, c6, c7, c8⟩ := HN.out _ _ HX3.out
  obtain ⟨d0, d1, d2, d3, d4, d5, d6, d7, d8⟩ := HN.out _ _ HO3.out
  go_wp2
  go_ret
  exact ⟨rfl, HB3.out⟩
end Go.Proofs.Ytmbhodhghgdbhaa

import Derived.Test.YtdajgcgliidjbaaGreatYMath
import Derived.Test.YtdajgcgliidjbaaGreatJTri
import Derived.Test.YtdajgcgliidjbaaGreatUInvs
namespace Go.Proofs.YtdajgcgliidjbaaGreat
open Go.RowKit
theorem cvC_cells {w : World} {g : Nat} {id : Int} (h : w.heap[g]? = some (.cells (cvC id) 35 (0, 0))) :
  w.cell? ⟨g, 0, none⟩ = some (.string (cvNT id)) ∧ w.cell? ⟨g, 1, none⟩ = some (.string (cvPT id)) ∧ w.cell? ⟨g, 2, none⟩ = some (.string (cvRT id)) ∧ w.cell? ⟨g, 3, none⟩ = some (.string (cvBT id)) ∧ w.cell? ⟨g, 6, none⟩ = some (.int .i64 (cvSz id)) := by
 rw [cvC_eq] at h
 exact ⟨(cell_of_row w g 0 _ _ _ h).trans rfl, (cell_of_row w g 1 _ _ _ h).trans rfl, (cell_of_row w g 2 _ _ _ h).trans rfl, (cell_of_row w g 3 _ _ _ h).trans rfl, (cell_of_row w g 6 _ _ _ h).trans rfl⟩
theorem cvC_pair {w : World} {g : Nat} {id : Int} (h : w.heap[g]? = some (.cells (cvC id) 35 (0, 0))) : (Instr.loadAt 25 (.pointer (some ⟨g, 4, none⟩))).run Tryz.prog w = .ok (.agg (aggT (cvKT id))) w := by
 rw [cvC_eq] at h
 have e := run_loadAt_mid (P := Tryz.prog) w g 4 25 (aggT (cvKT id)).toList _ (fun j v hv => by
  rw [cell_of_row w g (4 + j) _ _ _ h]
  match j with
  | 0 => simpa [aggT] using hv
  | 1 => simpa [aggT] using hv
  | j + 2 => simp [aggT] at hv) Tryz.underlying25 rfl Tryz.infoP
 simpa using e
structure CvIn (C : Array Value) (n p r b : ByteArray) (k : Pt) (sz : Int) : Prop where
 size : C.size = 9
 one : C.all (·.oneCell') = true
 cells : ∀ (w : World) (g : Nat), w.heap[g]? = some (.cells C 35 (0, 0)) → w.cell? ⟨g, 0, none⟩ = some (.string n) ∧ w.cell? ⟨g, 1, none⟩ = some (.string p) ∧ w.cell? ⟨g, 2, none⟩ = some (.string r) ∧ w.cell? ⟨g, 3, none⟩ = some (.string b) ∧ w.cell? ⟨g, 6, none⟩ = some (.int .i64 sz)
 pair : ∀ (w : World) (g : Nat), w.heap[g]? = some (.cells C 35 (0, 0)) → (Instr.loadAt 25 (.pointer (some ⟨g, 4, none⟩))).run Tryz.prog w = .ok (.agg (aggT k)) w
theorem cv_in (id : Int) : CvIn (cvC id) (cvNT id) (cvPT id) (cvRT id) (cvBT id) (cvKT id) (cvSz id) := ⟨cvC_size id, cvC_one id, fun _ _ h => cvC_cells h, fun _ _ h => cvC_pair h⟩
theorem CvIn.strs {C : Array Value} {n p r b : ByteArray} {k : Pt} {sz : Int} (h : CvIn C n p r b k sz) {w : World} {g : Nat} (hg : w.heap[g]? = some (.cells C 35 (0, 0))) :
  (Instr.loadAt 9 (.pointer (some ⟨g, 0, none⟩))).run Tryz.prog w = .ok (.string n) w ∧ (Instr.loadAt 9 (.pointer (some ⟨g, 1, none⟩))).run Tryz.prog w = .ok (.string p) w ∧ (Instr.loadAt 9 (.pointer (some ⟨g, 2, none⟩))).run Tryz.prog w = .ok (.string r) w ∧ (Instr.loadAt 9 (.pointer (some ⟨g, 3, none⟩))).run Tryz.prog w = .ok (.string b) w := by
 obtain ⟨c0, c1, c2, c3, _⟩ := h.cells w g hg
 exact ⟨str_load c0, str_load c1, str_load c2, str_load c3⟩
structure CvVar (w w' : World) (C : Array Value) : Prop where
 at0 : (w.alloc (.cells cv0 35)).heap[w.heap.size]? = some (.cells cv0 35 (0, 0))
 at1 : w'.heap[w.heap.size]? = some (.cells C 35 (0, 0))
 b : Below w.heap.size w w'
theorem cv_var' (w : World) {C : Array Value} (hs : C.size = 9) : CvVar w ((w.alloc (.cells cv0 35)).setRow w.heap.size C) C := ⟨(cv_var w C hs).1, (cv_var w C hs).2.1, (cv_var w C hs).2.2.1⟩
end Go.Proofs.YtdajgcgliidjbaaGreat

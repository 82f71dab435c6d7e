import Derived.Test.YtdajgcgliidjbaaYMath
import Derived.Test.YtdajgcgliidjbaaJTri
import Derived.Test.YtdajgcgliidjbaaUBase
import Derived.Test.YtdajgcgliidjbaaILow
namespace Go.Proofs.Ytdajgcgliidjbaa
open Go.RowKit
def ppT (x y : Pt) : Array Value := #[.bool false, .string x.1, .string x.2, .string y.1, .string y.2]
theorem Try.infoPairPoint : (Try.prog.info? 30).map (·.size) = some 5 := by kernel_rfl
set_option maxRecDepth 8000 in
set_option maxHeartbeats 4000000 in
theorem pairBase_any {id : Int} (h : cvB id = true) (w : World) : Calls Try.prog 11 #[.int .i64 id] w fun e w' => e = .returned (.agg (ppT (bpX id) (bpY id))) ∧ Below w.heap.size w w' := by
  have hb := (Below.refl w.heap.size w).alloc (Nat.le_refl _)
  rcases four_ids h with rfl | rfl | rfl | rfl
  · clear h
    go_enter Try.func11, Try.ntmps11
    go_wp2
    exact bodyPost_ret (results_cell_row Try.results11 _ _ w.heap.size _ _ _ _ rfl (heap_alloc_new w _) Try.underlying30 rfl Try.infoPairPoint) rfl ⟨rfl, hb _⟩
  · clear h
    go_enter Try.func11, Try.ntmps11
    go_wp2
    exact bodyPost_ret (results_cell_row Try.results11 _ _ w.heap.size _ _ _ _ rfl (heap_alloc_new w _) Try.underlying30 rfl Try.infoPairPoint) rfl ⟨rfl, hb _⟩
  · clear h
    go_enter Try.func11, Try.ntmps11
    go_wp2
    exact bodyPost_ret (results_cell_row Try.results11 _ _ w.heap.size _ _ _ _ rfl (heap_alloc_new w _) Try.underlying30 rfl Try.infoPairPoint) rfl ⟨rfl, hb _⟩
  · clear h
    go_enter Try.func11, Try.ntmps11
    go_wp2
    exact bodyPost_ret (results_cell_row Try.results11 _ _ w.heap.size _ _ _ _ rfl (heap_alloc_new w _) Try.underlying30 rfl Try.infoPairPoint) rfl ⟨rfl, hb _⟩
end Go.Proofs.Ytdajgcgliidjbaa

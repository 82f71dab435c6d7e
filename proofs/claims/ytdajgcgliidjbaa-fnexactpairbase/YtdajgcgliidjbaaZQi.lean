import Derived.Test.YtdajgcgliidjbaaZQb
import Derived.Test.YtdajgcgliidjbaaZPLaw
import Derived.Test.YtdajgcgliidjbaaUBase
import Derived.Test.YtdajgcgliidjbaaRDraw
import Derived.Test.YtdajgcgliidjbaaMAll
import Derived.Maps.AppendAt
import Derived.Laws.AppendOwnNone
import Derived.Test.YtdajgcgliidjbaaILow
import Derived.Test.YtdajgcgliidjbaaYCurve
import Derived.Test.YtdajgcgliidjbaaEPair
import Derived.Test.YtdajgcgliidjbaaJTri
import Derived.Deep.MidRow
import Derived.LoopN
import Derived.Deep.LoopGhost
import Derived.Test.YtdajgcgliidjbaaJHalf
import Derived.Test.YtdajgcgliidjbaaSeqC
import Derived.Test.YtdajgcgliidjbaaWkB
import Derived.Test.YtdajgcgliidjbaaZPBase
namespace Go.Proofs.Ytdajgcgliidjbaa
open Go.RowKit
set_option maxRecDepth 8000 in
set_option maxHeartbeats 4000000 in
theorem pairBase_i (id : Int) (w : World) : Calls Try.prog 12 #[.int .i64 id] w fun e w' => e = .returned (.agg (tqT (pbaseT id))) ∧ Below w.heap.size w w' := by
  have hb := (Below.refl w.heap.size w).alloc (Nat.le_refl _)
  cases h : cvB id with
  | true =>
    rcases four_ids h with rfl | rfl | rfl | rfl
    · clear h
      go_enter Try.func12, Try.ntmps12
      go_wp2
      exact bodyPost_ret (results_cell_row Try.results12 _ _ w.heap.size _ _ _ _ rfl (heap_alloc_new w _) Try.underlying30 rfl Try.infoPq) rfl ⟨rfl, hb _⟩
    · clear h
      go_enter Try.func12, Try.ntmps12
      go_wp2
      exact bodyPost_ret (results_cell_row Try.results12 _ _ w.heap.size _ _ _ _ rfl (heap_alloc_new w _) Try.underlying30 rfl Try.infoPq) rfl ⟨rfl, hb _⟩
    · clear h
      go_enter Try.func12, Try.ntmps12
      go_wp2
      exact bodyPost_ret (results_cell_row Try.results12 _ _ w.heap.size _ _ _ _ rfl (heap_alloc_new w _) Try.underlying30 rfl Try.infoPq) rfl ⟨rfl, hb _⟩
    · clear h
      go_enter Try.func12, Try.ntmps12
      go_wp2
      exact bodyPost_ret (results_cell_row Try.results12 _ _ w.heap.size _ _ _ _ rfl (heap_alloc_new w _) Try.underlying30 rfl Try.infoPq) rfl ⟨rfl, hb _⟩
  | false =>
    have e : pbaseT id = noQ := by unfold pbaseT bpX bpY noQ; rw [by4_no h, by4_no h]
    rw [e]
    obtain ⟨h1, h2, h3, h4⟩ := no_ids h
    have q1 : (id == 1) = false := by simpa using h1
    have q2 : (id == 2) = false := by simpa using h2
    have q3 : (id == 3) = false := by simpa using h3
    have q4 : (id == 4) = false := by simpa using h4
    clear h e h1 h2 h3 h4
    go_enter Try.func12, Try.ntmps12
    go_wp2
    exact bodyPost_ret (results_cell_row Try.results12 _ _ w.heap.size _ _ _ _ rfl (heap_alloc_new w _) Try.underlying30 rfl Try.infoPq) rfl ⟨rfl, hb _⟩
set_option maxRecDepth 8000 in
set_option maxHeartbeats 4000000 in
theorem pairBase_all (id : Int) (w : World) : Calls Try.prog 11 #[.int .i64 id] w fun e w' => e = .returned (.agg (tqT (pbaseT id))) ∧ Below w.heap.size w w' := by
  have hb := (Below.refl w.heap.size w).alloc (Nat.le_refl _)
  cases h : cvB id with
  | true =>
    exact pairBase_any h w
  | false =>
    have e : pbaseT id = noQ := by unfold pbaseT bpX bpY noQ; rw [by4_no h, by4_no h]
    rw [e]
    obtain ⟨h1, h2, h3, h4⟩ := no_ids h
    have q1 : (id == 1) = false := by simpa using h1
    have q2 : (id == 2) = false := by simpa using h2
    have q3 : (id == 3) = false := by simpa using h3
    have q4 : (id == 4) = false := by simpa using h4
    clear h e h1 h2 h3 h4
    go_enter Try.func11, Try.ntmps11
    go_wp2
    exact bodyPost_ret (results_cell_row Try.results11 _ _ w.heap.size _ _ _ _ rfl (heap_alloc_new w _) Try.underlying30 rfl Try.infoPq) rfl ⟨rfl, hb _⟩
end Go.Proofs.Ytdajgcgliidjbaa

import Derived.Test.YtdajgcgliidjbaaRows
import Derived.Test.YtdajgcgliidjbaaGreatW
import Derived.Handy
import Derived.Lib.Hide
import Derived.Outline
import Derived.Laws.OwnMore
import Derived.Laws.Rows
import Derived.Laws.Tables
import Derived.Deep.MidRow
import Derived.Deep.QuietTactic
import Derived.BigQuiet
import Derived.StillTailTactics
import Derived.Test.YtdajgcgliidjbaaNArith
/-
  Rows of limbs of impl (a struct of 81 limbs of 32 bits and a count), as a block of memory; the contract of countBelow.
-/
namespace Go.Proofs.Ytdajgcgliidjbaa
open Go.RowKit
def rowC (l : List Nat) (c : Nat) : Array Value := (l.map (fun x : Nat => Value.int .u32 (x : Int)) ++ [Value.int .i64 (c : Int)]).toArray
theorem rowC_size (l : List Nat) (c : Nat) : (rowC l c).size = l.length + 1 := by simp [rowC]
theorem rowC_set {l : List Nat} {c k : Nat} (y : Nat) (hk : k < l.length) : (rowC l c).setIfInBounds k (.int .u32 (y : Int)) = rowC (l.set k y) c := by
  simp only [rowC, List.setIfInBounds_toArray]
  rw [List.set_append_left _ _ (by simpa using hk), ← List.map_set]
theorem rowC_one (l : List Nat) (c : Nat) : (rowC l c).all (·.oneCell') = true := by
  rw [Array.all_eq_true_iff_forall_mem]
  intro v hv
  simp only [rowC, List.mem_toArray, List.mem_append, List.mem_map, List.mem_singleton] at hv
  rcases hv with ⟨x, _, rfl⟩ | rfl <;> rfl
structure RowI (w : World) (g : Nat) (l : List Nat) (c : Nat) : Prop where
  len : l.length = 81
  blk : w.heap[g]? = some (.cells (rowC l c) 71 (0, 0))
theorem RowI.lt {w : World} {g c : Nat} {l : List Nat} (h : RowI w g l c) : g < w.heap.size := (Array.getElem?_eq_some_iff.1 h.blk).1
theorem RowI.set {w : World} {g c : Nat} {l : List Nat} (h : RowI w g l c) {k : Nat} (y : Nat) (hk : k < 81) : RowI (w.setCell ⟨g, k, none⟩ (.int .u32 (y : Int))) g (l.set k y) c :=
  ⟨by rw [List.length_set]; exact h.len, by rw [heap_setCell_same w g k _ _ _ h.blk, rowC_set y (by rw [h.len]; exact hk)]⟩
theorem RowI.other {w w' : World} {g c : Nat} {l : List Nat} (h : RowI w g l c) (e : w'.heap[g]? = w.heap[g]?) : RowI w' g l c := ⟨h.len, e.trans h.blk⟩
theorem RowI.below {w w' : World} {g c B : Nat} {l : List Nat} (h : RowI w g l c) (hb : Below B w w') (hg : g < B) : RowI w' g l c := h.other (hb.block g hg)
theorem RowI.apart {w : World} {g g' k c : Nat} {l : List Nat} {v : Value} (h : RowI w g l c) (hne : g ≠ g') : RowI (w.setCell ⟨g', k, none⟩ v) g l c := h.other (Below.heap_setCell _ _ _ _ hne)
def Z81 : List Nat := List.replicate 81 0
theorem Try.infoRow : (Try.prog.info? 71).map (fun i => (i.zero, i.size)) = some (some (.agg (rowC Z81 0)), 82) := by kernel_rfl
end Go.Proofs.Ytdajgcgliidjbaa
/-
  The contract of impl.rowOf.
-/
namespace Go.Proofs.Ytdajgcgliidjbaa
open Go.RowKit
theorem zero_row : (∀ w, (zeroValue 71).run Try.prog w = .ok (.agg (rowC Z81 0)) w) ∧ (Try.prog.info? 71).map (·.size) = some 82 := by
  have h := Try.infoRow
  cases hq : Try.prog.info? 71 with
  | none => simp [hq] at h
  | some i =>
    simp [hq] at h
    exact ⟨fun w => by simp [zeroValue, typeInfo, hq, h.1], by simp [h.2]⟩
theorem rowC_size82 {l : List Nat} {c : Nat} (h : l.length = 81) : (rowC l c).size = 82 := by rw [rowC_size, h]
theorem RowI.load {w : World} {g c : Nat} {l : List Nat} (h : RowI w g l c) : (Instr.loadAt 71 (.pointer (some ⟨g, 0, none⟩))).run Try.prog w = .ok (.agg (rowC l c)) w := by
  simp only [Instr.loadAt, Instr.sureAddr, Sem.run_bind, Sem.run_pure, Result.andThen_ok]
  exact run_loadVar_row w g _ _ _ _ _ h.blk Try.underlying71 rfl (by rw [rowC_size82 h.len]; exact zero_row.2)
theorem RowI.store {w : World} {g c c' : Nat} {l l' : List Nat} (h : RowI w g l c) (hl : l'.length = 81) : (Instr.storeAt 71 (.pointer (some ⟨g, 0, none⟩)) (.agg (rowC l' c'))).run Try.prog w = .ok () (w.setRow g (rowC l' c')) := by
  simp only [Instr.storeAt, Instr.sureAddr, Sem.run_bind, Sem.run_pure, Result.andThen_ok]
  exact run_storeVar_row w g _ _ _ _ h.blk (by rw [rowC_size82 hl]; exact zero_row.2) (by rw [rowC_size82 hl, rowC_size82 h.len]) (rowC_one _ _)
theorem RowI.stored {w : World} {g c c' : Nat} {l l' : List Nat} (h : RowI w g l c) (hl : l'.length = 81) : RowI (w.setRow g (rowC l' c')) g l' c' := ⟨hl, setRow_heap w g _ _ _ _ h.blk⟩
end Go.Proofs.Ytdajgcgliidjbaa
/-
  The contracts of math/bits.Len8, Len32, LeadingZeros32 and of impl's bitCount.
-/
namespace Go.Proofs.Ytdajgcgliidjbaa
open Go.RowKit
end Go.Proofs.Ytdajgcgliidjbaa
/-
  The contracts of math/bits.Add32, Sub32, Div32.
-/
namespace Go.Proofs.Ytdajgcgliidjbaa
open Go.RowKit
end Go.Proofs.Ytdajgcgliidjbaa
/-
  The contract of impl's great: the one text of a right row's number.
-/
namespace Go.Proofs.Ytdajgcgliidjbaa
open Go.RowKit
end Go.Proofs.Ytdajgcgliidjbaa
/-
  The contracts of impl.GreatOk, GreatInt, BitsOf, BitOf.
-/
namespace Go.Proofs.Ytdajgcgliidjbaa
open Go.RowKit
end Go.Proofs.Ytdajgcgliidjbaa
/-
  Two rows laid into two variables of the call's own; how many limbs a right row of a bounded number has.
-/
namespace Go.Proofs.Ytdajgcgliidjbaa
open Go.RowKit
end Go.Proofs.Ytdajgcgliidjbaa
/-
  How many bits a great number has, and which they are.
-/
namespace Go.Proofs.Ytdajgcgliidjbaa
end Go.Proofs.Ytdajgcgliidjbaa

/-
  Rows of limbs of impl (a struct of 81 limbs of 32 bits and a count), as a block of memory; the contract of countBelow.
-/
import Derived.Test.YtkpcocdflcpnoaaRows
import Derived.Test.YtkpcocdflcpnoaaGreat
import Derived.Test.YtkpcocdflcpnoaaWMath
import Derived.Handy
import Derived.Lib.Hide
import Derived.Outline
import Derived.Laws.OwnMore
import Derived.Laws.Rows
import Derived.Laws.Tables
import Derived.Deep.QuietTactic
import Derived.BigQuiet
import Derived.StillTailTactics
namespace Go.Proofs.Ytkpcocdflcpnoaa
open Go.RowKit

/-- The cells of a row. -/
def rowC (l : List Nat) (c : Nat) : Array Value := (l.map (fun x : Nat => Value.int .u32 (x : Int)) ++ [Value.int .i64 (c : Int)]).toArray
theorem rowC_size (l : List Nat) (c : Nat) : (rowC l c).size = l.length + 1 := by simp [rowC]
theorem rowC_at {l : List Nat} {c k : Nat} (hk : k < l.length) : (rowC l c)[k]? = some (.int .u32 (l.getD k 0 : Int)) := by
  simp only [rowC, List.getElem?_toArray]
  rw [List.getElem?_append_left (by simpa using hk), List.getElem?_map, List.getElem?_eq_getElem hk, List.getD_eq_getElem?_getD, List.getElem?_eq_getElem hk]
  rfl
theorem rowC_cnt {l : List Nat} {c : Nat} : (rowC l c)[l.length]? = some (.int .i64 (c : Int)) := by
  simp only [rowC, List.getElem?_toArray]
  rw [List.getElem?_append_right (by simp)]
  simp
theorem rowC_set {l : List Nat} {c k : Nat} (y : Nat) (hk : k < l.length) : (rowC l c).setIfInBounds k (.int .u32 (y : Int)) = rowC (l.set k y) c := by
  simp only [rowC, List.setIfInBounds_toArray]
  rw [List.set_append_left _ _ (by simpa using hk), ← List.map_set]
theorem rowC_setC {l : List Nat} {c : Nat} (y : Nat) : (rowC l c).setIfInBounds l.length (.int .i64 (y : Int)) = rowC l y := by
  simp only [rowC, List.setIfInBounds_toArray]
  rw [List.set_append_right _ _ (by simp)]
  simp
theorem rowC_one (l : List Nat) (c : Nat) : (rowC l c).all (·.oneCell') = true := by
  rw [Array.all_eq_true_iff_forall_mem]
  intro v hv
  simp only [rowC, List.mem_toArray, List.mem_append, List.mem_map, List.mem_singleton] at hv
  rcases hv with ⟨x, _, rfl⟩ | rfl <;> rfl
structure RowI (w : World) (g : Nat) (l : List Nat) (c : Nat) : Prop where
  len : l.length = 81
  blk : w.heap[g]? = some (.cells (rowC l c) 39 (0, 0))
theorem RowI.lt {w : World} {g c : Nat} {l : List Nat} (h : RowI w g l c) : g < w.heap.size := (Array.getElem?_eq_some_iff.1 h.blk).1
theorem RowI.cell {w : World} {g c : Nat} {l : List Nat} (h : RowI w g l c) {k : Nat} (hk : k < 81) : w.cell? ⟨g, k, none⟩ = some (.int .u32 (l.getD k 0 : Int)) ∧ w.frozen? ⟨g, k, none⟩ = false :=
  ⟨(cell_of_row w g k _ _ _ h.blk).trans (rowC_at (by rw [h.len]; exact hk)), frozen_of_row w g k _ _ h.blk⟩
theorem RowI.cnt {w : World} {g c : Nat} {l : List Nat} (h : RowI w g l c) : w.cell? ⟨g, 81, none⟩ = some (.int .i64 (c : Int)) ∧ w.frozen? ⟨g, 81, none⟩ = false := by
  have e := (cell_of_row w g l.length _ _ _ h.blk).trans rowC_cnt
  have f := frozen_of_row w g l.length _ _ h.blk
  rw [h.len] at e f
  exact ⟨e, f⟩
theorem RowI.set {w : World} {g c : Nat} {l : List Nat} (h : RowI w g l c) {k : Nat} (y : Nat) (hk : k < 81) : RowI (w.setCell ⟨g, k, none⟩ (.int .u32 (y : Int))) g (l.set k y) c :=
  ⟨by rw [List.length_set]; exact h.len, by rw [heap_setCell_same w g k _ _ _ h.blk, rowC_set y (by rw [h.len]; exact hk)]⟩
theorem RowI.setC {w : World} {g c : Nat} {l : List Nat} (h : RowI w g l c) (y : Nat) : RowI (w.setCell ⟨g, 81, none⟩ (.int .i64 (y : Int))) g l y :=
  ⟨h.len, by rw [heap_setCell_same w g 81 _ _ _ h.blk, ← h.len, rowC_setC]⟩
theorem RowI.other {w w' : World} {g c : Nat} {l : List Nat} (h : RowI w g l c) (e : w'.heap[g]? = w.heap[g]?) : RowI w' g l c := ⟨h.len, e.trans h.blk⟩
theorem RowI.below {w w' : World} {g c B : Nat} {l : List Nat} (h : RowI w g l c) (hb : Below B w w') (hg : g < B) : RowI w' g l c := h.other (hb.block g hg)
theorem RowI.apart {w : World} {g g' k c : Nat} {l : List Nat} {v : Value} (h : RowI w g l c) (hne : g ≠ g') : RowI (w.setCell ⟨g', k, none⟩ v) g l c := h.other (Below.heap_setCell _ _ _ _ hne)

/-- A right row: limbs, a count without needless ones. -/
structure RV (l : List Nat) (c : Nat) : Prop where
  lim : W.Limbs l
  zero : ∀ k, c ≤ k → l.getD k 0 = 0
  top : c = 0 ∨ 0 < l.getD (c - 1) 0
def Z81 : List Nat := List.replicate 81 0
theorem Z81_len : Z81.length = 81 := by simp [Z81]
theorem Z81_getD (k : Nat) : Z81.getD k 0 = 0 := by
  simp only [Z81, List.getD_eq_getElem?_getD, List.getElem?_replicate]; split <;> rfl
theorem Z81_lim : W.Limbs Z81 := fun x hx => by have := List.eq_of_mem_replicate hx; omega
theorem Z81_val : W.lV Z81 = 0 := W.lV_zeros fun _ hx => List.eq_of_mem_replicate hx
theorem Try.infoRow : (Try.prog.info? 39).map (fun i => (i.zero, i.size)) = some (some (.agg (rowC Z81 0)), 82) := by kernel_rfl
/-- The count that is told. -/
structure CountRel (l : List Nat) (e c : Nat) : Prop where
  le : c ≤ e
  zero : ∀ k, c ≤ k → k < e → l.getD k 0 = 0
  top : c = 0 ∨ 0 < l.getD (c - 1) 0
def CountPost (g : Nat) (l : List Nat) (e : Nat) (w : World) (r : Ending) (w' : World) : Prop :=
  ∃ c, CountRel l e c ∧ r = .returned (.tuple #[]) ∧ w' = w.setCell ⟨g, 81, none⟩ (.int .i64 (c : Int))

set_option maxHeartbeats 1000000 in
theorem countBelow_any (g c0 e : Nat) (l : List Nat) (w : World) (h : RowI w g l c0) (he : e ≤ 81) :
    Calls Try.prog 57 #[.pointer (some ⟨g, 0, none⟩), .int .i64 (e : Int)] w (CountPost g l e w) := by
  have H := Lib.hid h
  clear h
  go_enter Try.func57, Try.ntmps57
  go_wp2
  go_loop [1] (fun ev => ∃ m : Nat, m ≤ e ∧ ev = .int .i64 (m : Int) ∧ Hid (∀ k, m ≤ k → k < e → l.getD k 0 = 0)) (fun ev => (intOf ev).toNat)
  case atStart => exact ⟨e, Nat.le_refl _, rfl, fun k h1 h2 => by omega⟩
  case round =>
    obtain ⟨m, hm, rfl, hZ⟩ := hrel
    by_cases h0 : 0 < m
    · obtain ⟨k, rfl⟩ : ∃ k, m = k + 1 := ⟨m - 1, by omega⟩
      obtain ⟨c1, f1⟩ := H.out.cell (k := k) (by omega)
      have h0' : (0 : Int) < ((k + 1 : Nat) : Int) := by omega
      have hk : (k : Int) < 81 := by omega
      obtain ⟨x, hx⟩ : ∃ x, l.getD k 0 = x := ⟨_, rfl⟩
      rw [hx] at c1
      have HX := Lib.hid hx
      clear hx
      by_cases hz : x = 0
      · subst hz
        have hz' : ((((0 : Nat) : Int)) == 0) = true := rfl
        have hZ2 : Hid (∀ j, k ≤ j → j < e → l.getD j 0 = 0) := fun j h1 h2 => by
          rcases Nat.eq_or_lt_of_le h1 with rfl | h
          · exact HX.out
          · exact hZ.out j h h2
        clear hZ
        go_wp2
        go_round
        case rel => exact ⟨k, by omega, by go_num, hZ2⟩
        case measure => simp [intOf]
      · have hz' : ((x : Int) == 0) = false := by simpa using hz
        obtain ⟨c2, f2⟩ := H.out.cnt
        have R : ∀ w, CountPost g l e w (.returned (.tuple #[])) (w.setCell ⟨g, 81, none⟩ (.int .i64 ((k + 1 : Nat) : Int))) := fun w => ⟨k + 1, ⟨hm, hZ.out, .inr (by rw [show k + 1 - 1 = k from rfl, HX.out]; omega)⟩, rfl, rfl⟩
        have R := Lib.hid R
        clear hz hZ
        go_wp2
        go_end0
        exact R.out _
    · obtain rfl : m = 0 := by omega
      obtain ⟨c2, f2⟩ := H.out.cnt
      have R : ∀ w, CountPost g l e w (.returned (.tuple #[])) (w.setCell ⟨g, 81, none⟩ (.int .i64 ((0 : Nat) : Int))) := fun w => ⟨0, ⟨hm, hZ.out, .inl rfl⟩, rfl, rfl⟩
      have R := Lib.hid R
      go_wp2
      go_end0
      exact R.out _
end Go.Proofs.Ytkpcocdflcpnoaa

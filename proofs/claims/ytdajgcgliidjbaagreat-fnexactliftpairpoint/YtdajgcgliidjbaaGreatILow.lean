import Derived.Test.YtdajgcgliidjbaaGreatRows
import Derived.Test.YtdajgcgliidjbaaGreatGreatW
import Derived.Handy
import Derived.Lib.Hide
import Derived.Outline
import Derived.Laws.OwnMore
import Derived.Laws.Rows
import Derived.Laws.Tables
import Derived.Deep.MidRow
import Derived.Deep.QuietTactic
import Derived.BigQuiet
import Derived.StillTailTactics
import Derived.Test.YtdajgcgliidjbaaGreatNArith
set_option maxRecDepth 100000
set_option maxHeartbeats 2000000
namespace Go.Proofs.YtdajgcgliidjbaaGreat
open Go.RowKit
def rowC (l : List Nat) (c : Nat) : Array Value := (l.map (fun x : Nat => Value.int .u32 (x : Int)) ++ [Value.int .i64 (c : Int)]).toArray
theorem rowC_size (l : List Nat) (c : Nat) : (rowC l c).size = l.length + 1 := by simp [rowC]
theorem rowC_at {l : List Nat} {c k : Nat} (hk : k < l.length) : (rowC l c)[k]? = some (.int .u32 (l.getD k 0 : Int)) := by
 simp only [rowC, List.getElem?_toArray]
 rw [List.getElem?_append_left (by simpa using hk), List.getElem?_map, List.getElem?_eq_getElem hk, List.getD_eq_getElem?_getD, List.getElem?_eq_getElem hk]
 rfl
theorem rowC_cnt {l : List Nat} {c : Nat} : (rowC l c)[l.length]? = some (.int .i64 (c : Int)) := by
 simp only [rowC, List.getElem?_toArray]
 rw [List.getElem?_append_right (by simp)]
 simp
theorem rowC_set {l : List Nat} {c k : Nat} (y : Nat) (hk : k < l.length) : (rowC l c).setIfInBounds k (.int .u32 (y : Int)) = rowC (l.set k y) c := by
 simp only [rowC, List.setIfInBounds_toArray]
 rw [List.set_append_left _ _ (by simpa using hk), ← List.map_set]
theorem rowC_setC {l : List Nat} {c : Nat} (y : Nat) : (rowC l c).setIfInBounds l.length (.int .i64 (y : Int)) = rowC l y := by
 simp only [rowC, List.setIfInBounds_toArray]
 rw [List.set_append_right _ _ (by simp)]
 simp
theorem rowC_one (l : List Nat) (c : Nat) : (rowC l c).all (·.oneCell') = true := by
 rw [Array.all_eq_true_iff_forall_mem]
 intro v hv
 simp only [rowC, List.mem_toArray, List.mem_append, List.mem_map, List.mem_singleton] at hv
 rcases hv with ⟨x, _, rfl⟩ | rfl <;> rfl
structure RowI (w : World) (g : Nat) (l : List Nat) (c : Nat) : Prop where
 len : l.length = 81
 blk : w.heap[g]? = some (.cells (rowC l c) 100 (0, 0))
theorem RowI.lt {w : World} {g c : Nat} {l : List Nat} (h : RowI w g l c) : g < w.heap.size := (Array.getElem?_eq_some_iff.1 h.blk).1
theorem RowI.cell {w : World} {g c : Nat} {l : List Nat} (h : RowI w g l c) {k : Nat} (hk : k < 81) : w.cell? ⟨g, k, none⟩ = some (.int .u32 (l.getD k 0 : Int)) ∧ w.frozen? ⟨g, k, none⟩ = false :=
 ⟨(cell_of_row w g k _ _ _ h.blk).trans (rowC_at (by rw [h.len]; exact hk)), frozen_of_row w g k _ _ h.blk⟩
theorem RowI.cnt {w : World} {g c : Nat} {l : List Nat} (h : RowI w g l c) : w.cell? ⟨g, 81, none⟩ = some (.int .i64 (c : Int)) ∧ w.frozen? ⟨g, 81, none⟩ = false := by
 have e := (cell_of_row w g l.length _ _ _ h.blk).trans rowC_cnt
 have f := frozen_of_row w g l.length _ _ h.blk
 rw [h.len] at e f
 exact ⟨e, f⟩
theorem RowI.set {w : World} {g c : Nat} {l : List Nat} (h : RowI w g l c) {k : Nat} (y : Nat) (hk : k < 81) : RowI (w.setCell ⟨g, k, none⟩ (.int .u32 (y : Int))) g (l.set k y) c :=
 ⟨by rw [List.length_set]; exact h.len, by rw [heap_setCell_same w g k _ _ _ h.blk, rowC_set y (by rw [h.len]; exact hk)]⟩
theorem RowI.setC {w : World} {g c : Nat} {l : List Nat} (h : RowI w g l c) (y : Nat) : RowI (w.setCell ⟨g, 81, none⟩ (.int .i64 (y : Int))) g l y :=
 ⟨h.len, by rw [heap_setCell_same w g 81 _ _ _ h.blk, ← h.len, rowC_setC]⟩
theorem RowI.other {w w' : World} {g c : Nat} {l : List Nat} (h : RowI w g l c) (e : w'.heap[g]? = w.heap[g]?) : RowI w' g l c := ⟨h.len, e.trans h.blk⟩
theorem RowI.below {w w' : World} {g c B : Nat} {l : List Nat} (h : RowI w g l c) (hb : Below B w w') (hg : g < B) : RowI w' g l c := h.other (hb.block g hg)
theorem RowI.apart {w : World} {g g' k c : Nat} {l : List Nat} {v : Value} (h : RowI w g l c) (hne : g ≠ g') : RowI (w.setCell ⟨g', k, none⟩ v) g l c := h.other (Below.heap_setCell _ _ _ _ hne)
structure RowP (w : World) (g o : Nat) (l : List Nat) (c : Nat) : Prop where
 len : l.length = 81
 blk : ∃ (pre post : Array Value) (t : TypeId), w.heap[g]? = some (.cells (pre ++ rowC l c ++ post) t (0, 0)) ∧ pre.size = o
theorem RowI.part {w : World} {g c : Nat} {l : List Nat} (h : RowI w g l c) : RowP w g 0 l c := ⟨h.len, #[], #[], _, by simpa using h.blk, rfl⟩
theorem RowP.lt {w : World} {g o c : Nat} {l : List Nat} (h : RowP w g o l c) : g < w.heap.size := by
 obtain ⟨_, _, _, _, h, _⟩ := h
 exact (Array.getElem?_eq_some_iff.1 h).1
theorem mid_at {pre R post : Array Value} {k : Nat} (hk : k < R.size) : (pre ++ R ++ post)[pre.size + k]? = R[k]? := by
 rw [Array.getElem?_append_left (by simp; omega), Array.getElem?_append_right (by omega)]
 congr 1
 omega
theorem RowP.cell {w : World} {g o c : Nat} {l : List Nat} (h : RowP w g o l c) {k : Nat} (hk : k < 81) : w.cell? ⟨g, o + k, none⟩ = some (.int .u32 (l.getD k 0 : Int)) ∧ w.frozen? ⟨g, o + k, none⟩ = false := by
 obtain ⟨hl, pre, post, t, hb, rfl⟩ := h
 exact ⟨(cell_of_row w g _ _ _ _ hb).trans ((mid_at (by rw [rowC_size, hl]; omega)).trans (rowC_at (by rw [hl]; exact hk))), frozen_of_row w g _ _ _ hb⟩
theorem RowP.cnt {w : World} {g o c : Nat} {l : List Nat} (h : RowP w g o l c) : w.cell? ⟨g, o + 81, none⟩ = some (.int .i64 (c : Int)) ∧ w.frozen? ⟨g, o + 81, none⟩ = false := by
 obtain ⟨hl, pre, post, t, hb, rfl⟩ := h
 refine ⟨(cell_of_row w g _ _ _ _ hb).trans ((mid_at (by rw [rowC_size, hl]; omega)).trans ?_), frozen_of_row w g _ _ _ hb⟩
 have e := rowC_cnt (l := l) (c := c)
 rwa [hl] at e
theorem RowP.other {w w' : World} {g o c : Nat} {l : List Nat} (h : RowP w g o l c) (e : w'.heap[g]? = w.heap[g]?) : RowP w' g o l c := by
 obtain ⟨hl, pre, post, t, hb, ho⟩ := h
 exact ⟨hl, pre, post, t, e.trans hb, ho⟩
theorem RowP.below {w w' : World} {g o c B : Nat} {l : List Nat} (h : RowP w g o l c) (hb : Below B w w') (hg : g < B) : RowP w' g o l c := h.other (hb.block g hg)
structure RowA (w : World) (g : Nat) (l : List Nat) (c : Nat) : Prop where
 len : l.length = 81
 blk : ∃ (post : Array Value) (t : TypeId), w.heap[g]? = some (.cells (rowC l c ++ post) t (0, 0))
theorem RowI.atA {w : World} {g c : Nat} {l : List Nat} (h : RowI w g l c) : RowA w g l c := ⟨h.len, #[], _, by simpa using h.blk⟩
theorem RowA.part {w : World} {g c : Nat} {l : List Nat} (h : RowA w g l c) : RowP w g 0 l c := by
 obtain ⟨hl, post, t, hb⟩ := h
 exact ⟨hl, #[], post, t, by simpa using hb, rfl⟩
theorem RowA.lt {w : World} {g c : Nat} {l : List Nat} (h : RowA w g l c) : g < w.heap.size := h.part.lt
theorem RowA.cell {w : World} {g c : Nat} {l : List Nat} (h : RowA w g l c) {k : Nat} (hk : k < 81) : w.cell? ⟨g, k, none⟩ = some (.int .u32 (l.getD k 0 : Int)) ∧ w.frozen? ⟨g, k, none⟩ = false := by
 have e := h.part.cell hk
 rwa [Nat.zero_add] at e
theorem RowA.cnt {w : World} {g c : Nat} {l : List Nat} (h : RowA w g l c) : w.cell? ⟨g, 81, none⟩ = some (.int .i64 (c : Int)) ∧ w.frozen? ⟨g, 81, none⟩ = false := by
 have e := h.part.cnt
 rwa [Nat.zero_add] at e
theorem RowA.other {w w' : World} {g c : Nat} {l : List Nat} (h : RowA w g l c) (e : w'.heap[g]? = w.heap[g]?) : RowA w' g l c := by
 obtain ⟨hl, post, t, hb⟩ := h
 exact ⟨hl, post, t, e.trans hb⟩
theorem RowA.below {w w' : World} {g c B : Nat} {l : List Nat} (h : RowA w g l c) (hb : Below B w w') (hg : g < B) : RowA w' g l c := h.other (hb.block g hg)
theorem RowP.range {w : World} {g o c : Nat} {l : List Nat} (h : RowP w g o l c) : w.rangeAt g o (rowC l c).toList := by
 obtain ⟨hl, pre, post, t, hb, rfl⟩ := h
 intro j v hv
 have hj : j < (rowC l c).size := by
  rcases Nat.lt_or_ge j (rowC l c).size with h | h
  ·exact h
  ·rw [List.getElem?_eq_none (by simpa using h)] at hv; cases hv
 rw [cell_of_row w g _ _ _ _ hb, mid_at hj]
 simpa using hv
structure RV (l : List Nat) (c : Nat) : Prop where
 lim : W.Limbs l
 zero : ∀ k, c ≤ k → l.getD k 0 = 0
 top : c = 0 ∨ 0 < l.getD (c - 1) 0
def Z81 : List Nat := List.replicate 81 0
theorem Z81_len : Z81.length = 81 := by simp [Z81]
theorem Z81_getD (k : Nat) : Z81.getD k 0 = 0 := by
 simp only [Z81, List.getD_eq_getElem?_getD, List.getElem?_replicate]; split <;> rfl
theorem Z81_lim : W.Limbs Z81 := fun x hx => by have := List.eq_of_mem_replicate hx; omega
theorem Z81_val : W.lV Z81 = 0 := W.lV_zeros fun _ hx => List.eq_of_mem_replicate hx
theorem Tryz.infoRow : (Tryz.prog.info? 100).map (fun i => (i.zero, i.size)) = some (some (.agg (rowC Z81 0)), 82) := by kernel_rfl
structure CountRel (l : List Nat) (e c : Nat) : Prop where
 le : c ≤ e
 zero : ∀ k, c ≤ k → k < e → l.getD k 0 = 0
 top : c = 0 ∨ 0 < l.getD (c - 1) 0
def CountPost (g : Nat) (l : List Nat) (e : Nat) (w : World) (r : Ending) (w' : World) : Prop :=
 ∃ c, CountRel l e c ∧ r = .returned (.tuple #[]) ∧ w' = w.setCell ⟨g, 81, none⟩ (.int .i64 (c : Int))
theorem countBelow_any (g c0 e : Nat) (l : List Nat) (w : World) (h : RowI w g l c0) (he : e ≤ 81) :
  Calls Tryz.prog 148 #[.pointer (some ⟨g, 0, none⟩), .int .i64 (e : Int)] w (CountPost g l e w) := by
 have H := Lib.hid h
 clear h
 go_enter Tryz.func148, Tryz.ntmps148
 go_wp2
 go_loop [1] (fun ev => ∃ m : Nat, m ≤ e ∧ ev = .int .i64 (m : Int) ∧ Hid (∀ k, m ≤ k → k < e → l.getD k 0 = 0)) (fun ev => (intOf ev).toNat)
 case atStart => exact ⟨e, Nat.le_refl _, rfl, fun k h1 h2 => by omega⟩
 case round =>
  obtain ⟨m, hm, rfl, hZ⟩ := hrel
  by_cases h0 : 0 < m
  ·obtain ⟨k, rfl⟩ : ∃ k, m = k + 1 := ⟨m - 1, by omega⟩
   obtain ⟨c1, f1⟩ := H.out.cell (k := k) (by omega)
   have h0' : (0 : Int) < ((k + 1 : Nat) : Int) := by omega
   have hk : (k : Int) < 81 := by omega
   obtain ⟨x, hx⟩ : ∃ x, l.getD k 0 = x := ⟨_, rfl⟩
   rw [hx] at c1
   have HX := Lib.hid hx
   clear hx
   by_cases hz : x = 0
   ·subst hz
    have hz' : ((((0 : Nat) : Int)) == 0) = true := rfl
    have hZ2 : Hid (∀ j, k ≤ j → j < e → l.getD j 0 = 0) := fun j h1 h2 => by
     rcases Nat.eq_or_lt_of_le h1 with rfl | h
     ·exact HX.out
     ·exact hZ.out j h h2
    clear hZ
    go_wp2
    go_round
    case rel => exact ⟨k, by omega, by go_num, hZ2⟩
    case measure => simp [intOf]
   ·have hz' : ((x : Int) == 0) = false := by simpa using hz
    obtain ⟨c2, f2⟩ := H.out.cnt
    have R : ∀ w, CountPost g l e w (.returned (.tuple #[])) (w.setCell ⟨g, 81, none⟩ (.int .i64 ((k + 1 : Nat) : Int))) := fun w => ⟨k + 1, ⟨hm, hZ.out, .inr (by rw [show k + 1 - 1 = k from rfl, HX.out]; omega)⟩, rfl, rfl⟩
    have R := Lib.hid R
    clear hz hZ
    go_wp2
    go_end0
    exact R.out _
  ·obtain rfl : m = 0 := by omega
   obtain ⟨c2, f2⟩ := H.out.cnt
   have R : ∀ w, CountPost g l e w (.returned (.tuple #[])) (w.setCell ⟨g, 81, none⟩ (.int .i64 ((0 : Nat) : Int))) := fun w => ⟨0, ⟨hm, hZ.out, .inl rfl⟩, rfl, rfl⟩
   have R := Lib.hid R
   go_wp2
   go_end0
   exact R.out _
end Go.Proofs.YtdajgcgliidjbaaGreat
namespace Go.Proofs.YtdajgcgliidjbaaGreat
open Go.RowKit
theorem orU32 (k a c : Nat) (hc : c < 2 ^ k) (h : 2 ^ k * a + c < 4294967296) : bits .or .u32 (c : Int) (((2 ^ k * a : Nat) : Int)) = ((2 ^ k * a + c : Nat) : Int) := by
 show IntKind.u32.wrap ((BitVec.ofInt 32 (c : Int) ||| BitVec.ofInt 32 ((2 ^ k * a : Nat) : Int)).toNat : Nat) = _
 rw [BitVec.or_comm, BitVec.toNat_or, BitVec.toNat_ofInt, BitVec.toNat_ofInt]
 have e1 : (((2 ^ k * a : Nat) : Int) % ((2 ^ 32 : Nat) : Int)).toNat = 2 ^ k * a := by
  generalize 2 ^ k * a = y at *; omega
 have e2 : ((c : Int) % ((2 ^ 32 : Nat) : Int)).toNat = c := by
  generalize 2 ^ k * a = y at *; omega
 rw [e1, e2, ← Nat.two_pow_add_eq_or_of_lt hc]
 generalize 2 ^ k * a + c = y at *
 rw [IntKind.wrap_u32]; omega
theorem getD_div {l : List Nat} (h : W.Limbs l) {k : Nat} (hv : W.lV l < 4294967296 ^ (k + 1)) : l.getD k 0 = W.lV l / 4294967296 ^ k := by
 rw [W.lV_dig h k, Nat.div_eq_of_lt hv]; omega
structure InRow (s : ByteArray) (i : Nat) (l : List Nat) : Prop where
 lim : W.Limbs l
 len : l.length = 81
 val : W.lV l = bN (s.data.toList.drop (s.size - i))
theorem InRow.lt {s : ByteArray} {i : Nat} {l : List Nat} (h : InRow s i l) (hi : i ≤ s.size) : W.lV l < 256 ^ i := by
 have := bN_lt (s.data.toList.drop (s.size - i))
 rw [List.length_drop, Array.length_toList, show s.data.size - (s.size - i) = i from by show s.size - (s.size - i) = i; omega] at this
 rw [h.val]; exact this
theorem InRow.next {s : ByteArray} {i x : Nat} {l : List Nat} (h : InRow s i l) (hi : i < s.size) (hs : s.size ≤ 160) (hx : l.getD (i / 4) 0 = x) :
  x < 2 ^ (8 * (i % 4)) ∧ 2 ^ (8 * (i % 4)) * (s[s.size - 1 - i]'(by omega)).toNat + x < 4294967296 ∧
  InRow s (i + 1) (l.set (i / 4) (2 ^ (8 * (i % 4)) * (s[s.size - 1 - i]'(by omega)).toNat + x)) := by
 obtain ⟨b, hb⟩ : ∃ b, (s[s.size - 1 - i]'(by omega)).toNat = b := ⟨_, rfl⟩
 have hb2 : b < 256 := by rw [← hb]; exact (s[s.size - 1 - i]'(by omega)).toNat_lt
 have hlt := h.lt (by omega)
 have e256 : (256 : Nat) ^ i = 4294967296 ^ (i / 4) * 2 ^ (8 * (i % 4)) := by
  rw [show (256 : Nat) = 2 ^ 8 from rfl, show (4294967296 : Nat) = 2 ^ 32 from rfl, ← Nat.pow_mul, ← Nat.pow_mul, ← Nat.pow_add]; congr 1; omega
 have hp : 0 < 4294967296 ^ (i / 4) := Nat.pow_pos (by omega)
 have h8 : 2 ^ (8 * (i % 4)) * 256 ≤ 4294967296 := by
  have : 2 ^ (8 * (i % 4)) * 2 ^ 8 ≤ 2 ^ 32 := by rw [← Nat.pow_add]; exact Nat.pow_le_pow_right (by omega) (by omega)
  exact this
 have hlt2 : W.lV l < 4294967296 ^ (i / 4 + 1) := by
  rw [Nat.pow_succ]
  have : 4294967296 ^ (i / 4) * 2 ^ (8 * (i % 4)) ≤ 4294967296 ^ (i / 4) * 4294967296 := Nat.mul_le_mul_left _ (by omega)
  omega
 have hxd : x = W.lV l / 4294967296 ^ (i / 4) := by rw [← hx]; exact getD_div h.lim hlt2
 have hx1 : x < 2 ^ (8 * (i % 4)) := by
  rw [hxd]; exact (Nat.div_lt_iff_lt_mul hp).2 (by rw [Nat.mul_comm, ← e256]; exact hlt)
 have hx2 : 2 ^ (8 * (i % 4)) * b + x < 4294967296 := by
  have : 2 ^ (8 * (i % 4)) * (b + 1) ≤ 2 ^ (8 * (i % 4)) * 256 := Nat.mul_le_mul_left _ hb2
  rw [Nat.mul_add] at this
  omega
 rw [hb]
 refine ⟨hx1, hx2, h.lim.set _ hx2, by rw [List.length_set]; exact h.len, ?_⟩
 have hs1 := W.lV_set l (i / 4) (2 ^ (8 * (i % 4)) * b + x) (by rw [h.len]; omega)
 rw [hx, Nat.mul_add, ← Nat.mul_assoc, ← e256] at hs1
 have hd : s.data.toList.drop (s.size - (i + 1)) = s[s.size - 1 - i]'(by omega) :: s.data.toList.drop (s.size - i) := by
  have hl : s.size - (i + 1) < s.data.toList.length := by rw [Array.length_toList]; show s.size - (i + 1) < s.size; omega
  rw [List.drop_eq_getElem_cons hl, show s.size - (i + 1) + 1 = s.size - i from by omega]
  congr 1
  show s.data.toList[s.size - (i + 1)]'hl = s.data[s.size - 1 - i]'(by show _ < s.size; omega)
  rw [Array.getElem_toList]; congr 1; omega
 rw [hd, bN_cons, hb, List.length_drop, Array.length_toList, show s.data.size - (s.size - i) = i from by show s.size - (s.size - i) = i; omega, ← h.val]
 rw [Nat.mul_comm b]
 omega
theorem InRow.start (s : ByteArray) : InRow s 0 Z81 := ⟨Z81_lim, Z81_len, by rw [Z81_val, List.drop_of_length_le (by rw [Array.length_toList]; exact Nat.le_refl _)]; rfl⟩
def AggPost (P : List Nat → Nat → Prop) (w : World) (e : Ending) (w' : World) : Prop :=
 ∃ l c, e = .returned (.agg (rowC l c)) ∧ l.length = 81 ∧ RV l c ∧ P l c ∧ Below w.heap.size w w'
theorem zero_row : (∀ w, (zeroValue 100).run Tryz.prog w = .ok (.agg (rowC Z81 0)) w) ∧ (Tryz.prog.info? 100).map (·.size) = some 82 := by
 have h := Tryz.infoRow
 cases hq : Tryz.prog.info? 100 with
 | none => simp [hq] at h
 | some i =>
  simp [hq] at h
  exact ⟨fun w => by simp [zeroValue, typeInfo, hq, h.1], by simp [h.2]⟩
structure Work (w wr : World) (l : List Nat) (c : Nat) : Prop where
 out : RowI wr w.heap.size Z81 0
 row : RowI wr (w.heap.size + 1) l c
 b : Below w.heap.size w wr
theorem Work.start (w : World) {Z : Array Value} (hZ : rowC Z81 0 = Z) : Work w ((w.alloc (.cells Z 100)).alloc (.cells Z 100)) Z81 0 := by
 subst hZ
 refine ⟨⟨Z81_len, heap_alloc2_old w _ _⟩, ⟨Z81_len, heap_alloc2_new w _ _⟩, ?_⟩
 exact ((Below.refl _ _).alloc (Nat.le_refl _) _).alloc (by simp) _
theorem bdN {B : Nat} {w x : World} (h : Below B w x) (k : Nat) : Below B w (x.drewN k) := ⟨h.os, h.tape, h.output, h.size, h.block⟩
theorem Work.drewN {w wr : World} {l : List Nat} {c : Nat} (h : Work w wr l c) (k : Nat) : Work w (wr.drewN k) l c := ⟨h.out.other rfl, h.row.other rfl, bdN h.b k⟩
theorem Work.set {w wr : World} {l : List Nat} {c k : Nat} (h : Work w wr l c) (y : Nat) (hk : k < 81) : Work w (wr.setCell ⟨w.heap.size + 1, k, none⟩ (.int .u32 (y : Int))) (l.set k y) c :=
 ⟨h.out.apart (by omega), h.row.set y hk, h.b.setCell (p := ⟨w.heap.size + 1, k, none⟩) (by simp) _⟩
theorem Work.setC {w wr : World} {l : List Nat} {c : Nat} (h : Work w wr l c) (y : Nat) : Work w (wr.setCell ⟨w.heap.size + 1, 81, none⟩ (.int .i64 (y : Int))) l y :=
 ⟨h.out.apart (by omega), h.row.setC y, h.b.setCell (p := ⟨w.heap.size + 1, 81, none⟩) (by simp) _⟩
theorem rowC_size82 {l : List Nat} {c : Nat} (h : l.length = 81) : (rowC l c).size = 82 := by rw [rowC_size, h]
theorem RowI.load {w : World} {g c : Nat} {l : List Nat} (h : RowI w g l c) : (Instr.loadAt 100 (.pointer (some ⟨g, 0, none⟩))).run Tryz.prog w = .ok (.agg (rowC l c)) w := by
 simp only [Instr.loadAt, Instr.sureAddr, Sem.run_bind, Sem.run_pure, Result.andThen_ok]
 exact run_loadVar_row w g _ _ _ _ _ h.blk Tryz.underlying100 rfl (by rw [rowC_size82 h.len]; exact zero_row.2)
theorem RowI.store {w : World} {g c c' : Nat} {l l' : List Nat} (h : RowI w g l c) (hl : l'.length = 81) : (Instr.storeAt 100 (.pointer (some ⟨g, 0, none⟩)) (.agg (rowC l' c'))).run Tryz.prog w = .ok () (w.setRow g (rowC l' c')) := by
 simp only [Instr.storeAt, Instr.sureAddr, Sem.run_bind, Sem.run_pure, Result.andThen_ok]
 exact run_storeVar_row w g _ _ _ _ h.blk (by rw [rowC_size82 hl]; exact zero_row.2) (by rw [rowC_size82 hl, rowC_size82 h.len]) (rowC_one _ _)
theorem RowI.stored {w : World} {g c c' : Nat} {l l' : List Nat} (h : RowI w g l c) (hl : l'.length = 81) : RowI (w.setRow g (rowC l' c')) g l' c' := ⟨hl, setRow_heap w g _ _ _ _ h.blk⟩
theorem RowI.storedApart {w : World} {g g' c : Nat} {l : List Nat} {cs : Array Value} (h : RowI w g l c) (hne : g ≠ g') : RowI (w.setRow g' cs) g l c := h.other (setRow_other w g' g cs hne)
theorem below_setRow {B : Nat} {w wr : World} (h : Below B w wr) {g : Nat} (hg : B ≤ g) (cs : Array Value) : Below B w (wr.setRow g cs) :=
 ⟨h.os, h.tape, h.output, by rw [size_setRow]; exact h.size, fun i hi => (setRow_other wr g i cs (by omega)).trans (h.block i hi)⟩
theorem RowI.result {w : World} {g c : Nat} {l : List Nat} (h : RowI w g l c) {fn : Func} {p : Tmp} (hf : fn.results = #[.cell p 100]) (tmps : Array Value) (hp : tmps.getD p undef = .pointer (some ⟨g, 0, none⟩)) :
  (results fn tmps).run Tryz.prog w = .ok (.agg (rowC l c)) w :=
 results_cell_row hf tmps w g _ _ _ _ hp h.blk Tryz.underlying100 rfl (by rw [rowC_size82 h.len]; exact zero_row.2)
theorem load_at {ops : Array Oper} {rest : List Oper} {o : Oper} {a : Act} {w : World} {Q : Exit → Act → World → Prop} (hgd : o.guard = none) (x : Operand) (ho : o.op = .load 100 x) (g : Nat) (l : List Nat) (c : Nat)
  (hx : a.eval x = .pointer (some ⟨g, 0, none⟩)) (h : RowI w g l c) (k : wpList Tryz.prog ops Q rest (a.put o.dst (.agg (rowC l c))) w) : wpList Tryz.prog ops Q (o :: rest) a w :=
 wpList_load_row hgd _ x ho g hx _ _ _ _ h.blk Tryz.underlying100 rfl (by rw [rowC_size82 h.len]; exact zero_row.2) k
theorem store_at {ops : Array Oper} {rest : List Oper} {o : Oper} {a : Act} {w : World} {Q : Exit → Act → World → Prop} (hgd : o.guard = none) (x y : Operand) (ho : o.op = .store 100 x y) (g : Nat) (l l' : List Nat) (c c' : Nat)
  (hx : a.eval x = .pointer (some ⟨g, 0, none⟩)) (hy : a.eval y = .agg (rowC l' c')) (h : RowI w g l c) (hl : l'.length = 81) (k : wpList Tryz.prog ops Q rest (a.put o.dst undef) (w.setRow g (rowC l' c'))) : wpList Tryz.prog ops Q (o :: rest) a w :=
 wpList_plain hgd fun _ hK => wp_store_row _ x y ho g _ hx hy _ _ h.blk (by rw [rowC_size82 hl]; exact zero_row.2) (by rw [rowC_size82 hl, rowC_size82 h.len]) (rowC_one _ _) (hK _ _ k)
theorem CountRel.right {l : List Nat} {e c : Nat} (h : CountRel l e c) (lim : W.Limbs l) (hz : ∀ k, e ≤ k → l.getD k 0 = 0) : RV l c :=
 ⟨lim, fun k hk => by rcases Nat.lt_or_ge k e with h1 | h1; exact h.zero k hk h1; exact hz k h1, h.top⟩
theorem rowOf_any (s : ByteArray) (w : World) (hs : s.size ≤ 160) :
  Calls Tryz.prog 105 #[.string s] w (AggPost (fun l _ => W.lV l = gV s) w) := by
 obtain ⟨Z, hZ⟩ : ∃ Z, rowC Z81 0 = Z := ⟨_, rfl⟩
 have hz := zero_row.1
 rw [hZ] at hz
 have HZ := Lib.hid hZ
 clear hZ
 go_enter Tryz.func105, Tryz.ntmps105
 go_wp2
 have HW := Lib.hid (Work.start w HZ.out)
 clear hz HZ
 go_loopw [7] (fun iv wr => ∃ (i : Nat) (l : List Nat), i ≤ s.size ∧ iv = .int .i64 i ∧ Hid (InRow s i l) ∧ Hid (Work w wr l 0)) (fun iv _ => s.size - (intOf iv).toNat)
 case atStart => exact ⟨0, Z81, Nat.zero_le _, rfl, InRow.start s, HW⟩
 case round =>
  clear HW
  obtain ⟨i, l, his, rfl, hI, hW⟩ := hrel
  by_cases hlt : i < s.size
  ·have hlt' : (i : Int) < (s.size : Int) := by omega
   obtain ⟨x, hx⟩ : ∃ x, l.getD (i / 4) 0 = x := ⟨_, rfl⟩
   obtain ⟨h1, h2, h3⟩ := hI.out.next hlt hs hx
   obtain ⟨j, hj⟩ : ∃ j, s.size - 1 - i = j := ⟨_, rfl⟩
   have hjs : j < s.size := by omega
   simp only [hj] at h2 h3
   obtain ⟨q, hq⟩ : ∃ q, i / 4 = q := ⟨_, rfl⟩
   obtain ⟨t, ht⟩ : ∃ t, 8 * (i % 4) = t := ⟨_, rfl⟩
   obtain ⟨b, hb⟩ : ∃ b, s[j].toNat = b := ⟨_, rfl⟩
   obtain ⟨c1, f1⟩ := hW.out.row.cell (k := q) (by omega)
   rw [hq] at hx h3
   rw [ht] at h1 h2 h3
   rw [hb] at h2 h3
   rw [hx] at c1
   have hb2 : b < 256 := by rw [← hb]; exact s[j].toNat_lt
   have ho := orU32 t b x h1 h2
   obtain ⟨V, hV⟩ : ∃ V, 2 ^ t * b + x = V := ⟨_, rfl⟩
   obtain ⟨Y, hY⟩ : ∃ Y, 2 ^ t * b = Y := ⟨_, rfl⟩
   have hY2 : (b : Int) * 2 ^ t = (Y : Int) := by rw [← hY]; simp [Int.mul_comm]
   rw [hV] at h3 h2
   rw [hV, hY] at ho
   have d1 : IntKind.i64.wrap ((i : Int) / 4) = (q : Int) := by rw [IntWalk.i64_in _ (by omega)]; omega
   have d2 : (0 : Int) ≤ (q : Int) := by omega
   have d3 : (q : Int) < 81 := by omega
   have d4 : IntKind.i64.wrap ((s.size : Int) - 1) = (s.size : Int) - 1 := IntWalk.i64_in _ (by omega)
   have d5 : IntKind.i64.wrap ((s.size : Int) - 1 - (i : Int)) = (j : Int) := by rw [IntWalk.i64_in _ (by omega)]; omega
   have d6 : (0 : Int) ≤ (j : Int) := by omega
   have d7 : (j : Int) < (s.size : Int) := by omega
   have d8 : IntKind.u32.wrap (b : Int) = (b : Int) := IntWalk.u32_in _ (by omega)
   have d9 : IntKind.i64.wrap (8 * (i : Int).tmod 4) = (t : Int) := by rw [Int.tmod_eq_emod_of_nonneg (by omega), IntWalk.i64_in _ (by omega)]; omega
   have e3 : (0 : Int) ≤ (t : Int) := by omega
   have e4 : (t : Int) ≤ 32 := by omega
   have e5 : IntKind.u32.wrap (Y : Int) = (Y : Int) := IntWalk.u32_in _ (by omega)
   have HN := Lib.hid h3
   clear hx hI hV hj ht h1 h2 hY hq h3
   go_wp2
   go_still_tail 20, (by kernel_rfl)
   change wpList _ _ _ _ _ wr.drew
   have HW2 := Lib.hid (hW.out.drewN 1)
   have HW3 := Lib.hid (HW2.out.set (k := q) V (by omega))
   change Hid (Work w (wr.drew.setCell _ _) (l.set q V) 0) at HW3
   change wr.drew.cell? _ = _ at c1
   change wr.drew.frozen? _ = _ at f1
   clear HW2 hW
   generalize wr.drew = wr at *
   go_wp2
   go_roundw
   case rel => exact ⟨i + 1, l.set q V, by omega, by go_num, HN, HW3⟩
   case measure => simp [intOf]; omega
  ·obtain rfl : i = s.size := by omega
   have hlt' : ¬ (s.size : Int) < (s.size : Int) := by omega
   obtain ⟨E, hE⟩ : ∃ E, s.size / 4 + 1 = E := ⟨_, rfl⟩
   have HC := Lib.hid (countBelow_any (w.heap.size + 1) 0 E l wr hW.out.row (by omega))
   have hval : Hid (W.lV l = gV s) := by
    show W.lV l = gV s
    rw [hI.out.val, show s.size - s.size = 0 from by omega]; rfl
   have q1 : (s.size : Int) / 4 + 1 = (E : Int) := by omega
   have hR := fun c (h : CountRel l E c) => h.right hI.out.lim (fun k hk => W.high_zero hI.out.lim (m := E) (by
    have := hI.out.lt (Nat.le_refl _)
    have e : 256 ^ s.size ≤ 256 ^ (4 * E) := Nat.pow_le_pow_right (by omega) (by omega)
    rw [Nat.pow_mul] at e
    exact Nat.lt_of_lt_of_le this e) hk)
   have HR := Lib.hid hR
   have hlen := Lib.hid hI.out.len
   clear hI hR hE
   go_wp2_with fail
   refine HC.out.mono ?_
   rintro e w1 ⟨c, hc, rfl, rfl⟩
   have HW2 := hW.out.setC c
   have HV := Lib.hid (HR.out c hc)
   clear HC hW HR hc
   generalize wr.setCell ⟨w.heap.size + 1, 81, none⟩ (.int .i64 (c : Int)) = w2 at *
   have HB := Lib.hid (below_setRow HW2.b (Nat.le_refl _) (rowC l c))
   have HO := Lib.hid (HW2.out.stored (c' := c) hlen.out)
   have H2 := Lib.hid HW2
   clear HW2
   go_wp2_with (first | refine load_at rfl (.tmp 3) rfl (w.heap.size + 1) l c rfl H2.out.row ?_ | refine store_at rfl (.tmp 2) (.tmp 36) rfl w.heap.size Z81 l 0 c rfl rfl H2.out.out hlen.out ?_)
   exact bodyPost_ret (HO.out.result Tryz.results105 _ rfl) rfl ⟨l, c, rfl, hlen.out, HV.out, hval.out, HB.out⟩
end Go.Proofs.YtdajgcgliidjbaaGreat
namespace Go.Proofs.YtdajgcgliidjbaaGreat
open Go.RowKit
def len8T : ByteArray := ⟨#[0, 1, 2, 2, 3, 3, 3, 3, 4, 4, 4, 4, 4, 4, 4, 4, 5, 5, 5, 5, 5, 5, 5, 5, 5, 5, 5, 5, 5, 5, 5, 5, 6, 6, 6, 6, 6, 6, 6, 6, 6, 6, 6, 6, 6, 6, 6, 6, 6, 6, 6, 6, 6, 6, 6, 6, 6, 6, 6, 6, 6, 6, 6, 6, 7, 7, 7, 7, 7, 7, 7, 7, 7, 7, 7, 7, 7, 7, 7, 7, 7, 7, 7, 7, 7, 7, 7, 7, 7, 7, 7, 7, 7, 7, 7, 7, 7, 7, 7, 7, 7, 7, 7, 7, 7, 7, 7, 7, 7, 7, 7, 7, 7, 7, 7, 7, 7, 7, 7, 7, 7, 7, 7, 7, 7, 7, 7, 7, 8, 8, 8, 8, 8, 8, 8, 8, 8, 8, 8, 8, 8, 8, 8, 8, 8, 8, 8, 8, 8, 8, 8, 8, 8, 8, 8, 8, 8, 8, 8, 8, 8, 8, 8, 8, 8, 8, 8, 8, 8, 8, 8, 8, 8, 8, 8, 8, 8, 8, 8, 8, 8, 8, 8, 8, 8, 8, 8, 8, 8, 8, 8, 8, 8, 8, 8, 8, 8, 8, 8, 8, 8, 8, 8, 8, 8, 8, 8, 8, 8, 8, 8, 8, 8, 8, 8, 8, 8, 8, 8, 8, 8, 8, 8, 8, 8, 8, 8, 8, 8, 8, 8, 8, 8, 8, 8, 8, 8, 8, 8, 8, 8, 8, 8, 8, 8, 8, 8, 8, 8, 8, 8, 8, 8, 8, 8, 8]⟩
theorem len8_size : len8T.size = 256 := rfl
theorem len8_all : ∀ k : Fin 256, ((len8T[k.val]'(by rw [len8_size]; exact k.isLt)).toNat) = bitLen k.val := by decide +kernel
theorem len8_val (c : Nat) (h : c < len8T.size) : (len8T[c]'h).toNat = bitLen c := len8_all ⟨c, by rw [← len8_size]; exact h⟩
theorem bitLen_small {c : Nat} (h : c < 256) : bitLen c ≤ 8 := by
 unfold bitLen
 split
 ·omega
 ·rename_i h0; have := (Nat.log2_lt h0 (k := 8)).2 (by omega); omega
theorem w64 {n : Int} (h : -9223372036854775808 ≤ n ∧ n ≤ 9223372036854775807) : wrap64 n = n := by unfold wrap64; omega
theorem len8_wrap {c : Nat} (h : c < len8T.size) : wrap64 ((len8T[c]'h).toNat : Int) = (bitLen c : Int) := by
 rw [len8_val]
 have : bitLen c ≤ 8 := bitLen_small (by rw [← len8_size]; exact h)
 exact w64 (by omega)
theorem len32_zero {c : Nat} (h : c < len8T.size) : wrap64 (wrap64 ((len8T[c]'h).toNat : Int)) = (bitLen c : Int) := by
 rw [len8_wrap]
 have : bitLen c ≤ 8 := bitLen_small (by rw [← len8_size]; exact h)
 exact w64 (by omega)
theorem len32_end {c n : Nat} (h : c < len8T.size) (hn : n ≤ 24) : wrap64 ((n : Int) + wrap64 ((len8T[c]'h).toNat : Int)) = ((bitLen c + n : Nat) : Int) := by
 rw [len8_wrap]
 have : bitLen c ≤ 8 := bitLen_small (by rw [← len8_size]; exact h)
 rw [w64 (by omega)]; omega
theorem bitLen_shift {x k : Nat} (h : 2 ^ k ≤ x) : bitLen x = bitLen (x / 2 ^ k) + k := by
 have hp : 0 < 2 ^ k := Nat.pow_pos (by omega)
 have hx : x ≠ 0 := by omega
 have hd : x / 2 ^ k ≠ 0 := by have := Nat.div_pos h hp; omega
 obtain ⟨b, hb⟩ : ∃ b, b = (x / 2 ^ k).log2 := ⟨_, rfl⟩
 have a1 : 2 ^ b ≤ x / 2 ^ k := by rw [← Nat.le_log2 hd]; omega
 have a2 : x / 2 ^ k < 2 ^ (b + 1) := by rw [← Nat.log2_lt hd]; omega
 have e1 : bitLen (x / 2 ^ k) = b + 1 := bitLen_eq a1 a2
 have b1 : 2 ^ (b + k) ≤ x := by
  have := (Nat.le_div_iff_mul_le hp).1 a1
  rw [← Nat.pow_add] at this; exact this
 have b2 : x < 2 ^ (b + k + 1) := by
  have := (Nat.div_lt_iff_lt_mul hp).1 a2
  rw [← Nat.pow_add, show b + 1 + k = b + k + 1 from by omega] at this; exact this
 rw [e1, bitLen_eq b1 b2]; omega
theorem len8_any (c : Nat) (hc : c < 256) (w : World) : Calls Tryz.prog 198 #[.int .u8 (c : Int)] w fun e w' => e = .returned (.int .i64 (bitLen c : Int)) ∧ w = w' := by
 have h1 : (0 : Int) ≤ (c : Int) := by omega
 have h2 : (c : Int) < 256 := by omega
 go_enter Tryz.func198, Tryz.ntmps198
 go_wp2
 go_ret
 exact ⟨ret_int (len8_wrap (c := c) (by rw [len8_size]; exact hc)), rfl⟩
theorem len32_any (x : Nat) (hx : x < 4294967296) (w : World) : Calls Tryz.prog 182 #[.int .u32 (x : Int)] w fun e w' => e = .returned (.int .i64 (bitLen x : Int)) ∧ w = w' := by
 by_cases h1 : 65536 ≤ x
 ·have g1 : (65536 : Int) ≤ (x : Int) := by omega
  obtain ⟨y, hy⟩ : ∃ y, x / 65536 = y := ⟨_, rfl⟩
  have d1 : (x : Int) / 65536 = (y : Int) := by omega
  have E1 : Hid (bitLen x = bitLen y + 16) := by rw [← hy]; exact bitLen_shift (k := 16) h1
  by_cases h2 : 256 ≤ y
  ·have g2 : (256 : Int) ≤ (y : Int) := by omega
   obtain ⟨z, hz⟩ : ∃ z, y / 256 = z := ⟨_, rfl⟩
   have d2 : (y : Int) / 256 = (z : Int) := by omega
   have E2 : Hid (bitLen y = bitLen z + 8) := by rw [← hz]; exact bitLen_shift (k := 8) h2
   have z1 : (0 : Int) ≤ (z : Int) := by omega
   have z2 : (z : Int) < 256 := by omega
   have hz2 : z < 256 := by omega
   have z3 : IntKind.u8.wrap (z : Int) = (z : Int) := IntWalk.u8_in _ (by omega)
   clear hz hy h1 h2
   go_enter Tryz.func182, Tryz.ntmps182
   go_wp2
   go_ret
   exact ⟨(ret_int (len32_end (c := z) (n := 24) (by rw [len8_size]; exact hz2) (by omega))).trans (by rw [E1.out, E2.out]), rfl⟩
  ·have g2 : ¬ (256 : Int) ≤ (y : Int) := by omega
   have z1 : (0 : Int) ≤ (y : Int) := by omega
   have z2 : (y : Int) < 256 := by omega
   have hz2 : y < 256 := by omega
   have z3 : IntKind.u8.wrap (y : Int) = (y : Int) := IntWalk.u8_in _ (by omega)
   clear hy h1 h2
   go_enter Tryz.func182, Tryz.ntmps182
   go_wp2
   go_ret
   exact ⟨(ret_int (len32_end (c := y) (n := 16) (by rw [len8_size]; exact hz2) (by omega))).trans (by rw [E1.out]), rfl⟩
 ·have g1 : ¬ (65536 : Int) ≤ (x : Int) := by omega
  by_cases h2 : 256 ≤ x
  ·have g2 : (256 : Int) ≤ (x : Int) := by omega
   obtain ⟨z, hz⟩ : ∃ z, x / 256 = z := ⟨_, rfl⟩
   have d2 : (x : Int) / 256 = (z : Int) := by omega
   have E2 : Hid (bitLen x = bitLen z + 8) := by rw [← hz]; exact bitLen_shift (k := 8) h2
   have z1 : (0 : Int) ≤ (z : Int) := by omega
   have z2 : (z : Int) < 256 := by omega
   have hz2 : z < 256 := by omega
   have z3 : IntKind.u8.wrap (z : Int) = (z : Int) := IntWalk.u8_in _ (by omega)
   clear hz h1 h2
   go_enter Tryz.func182, Tryz.ntmps182
   go_wp2
   go_ret
   exact ⟨(ret_int (len32_end (c := z) (n := 8) (by rw [len8_size]; exact hz2) (by omega))).trans (by rw [E2.out]), rfl⟩
  ·have g2 : ¬ (256 : Int) ≤ (x : Int) := by omega
   have z1 : (0 : Int) ≤ (x : Int) := by omega
   have z2 : (x : Int) < 256 := by omega
   have hz2 : x < 256 := by omega
   have z3 : IntKind.u8.wrap (x : Int) = (x : Int) := IntWalk.u8_in _ (by omega)
   clear h1 h2
   go_enter Tryz.func182, Tryz.ntmps182
   go_wp2
   go_ret
   exact ⟨ret_int (len32_zero (c := x) (by rw [len8_size]; exact hz2)), rfl⟩
theorem bitLen_32 {c : Nat} (h : c < 4294967296) : bitLen c ≤ 32 := by
 unfold bitLen
 split
 ·omega
 ·rename_i h0; have := (Nat.log2_lt h0 (k := 32)).2 (by omega); omega
theorem lead32_any (x : Nat) (hx : x < 4294967296) (w : World) : Calls Tryz.prog 195 #[.int .u32 (x : Int)] w fun e w' => e = .returned (.int .i64 ((32 - bitLen x : Nat) : Int)) ∧ w = w' := by
 have hb := bitLen_32 hx
 have H := Lib.hid (len32_any x hx)
 obtain ⟨b, hb2⟩ : ∃ b, bitLen x = b := ⟨_, rfl⟩
 rw [hb2] at H hb ⊢
 clear hb2
 go_enter Tryz.func195, Tryz.ntmps195
 go_wp2_with fail
 refine (H.out _).mono ?_
 rintro e w1 ⟨rfl, rfl⟩
 go_wp2
 go_ret
 exact ⟨ret_int (by omega), rfl⟩
theorem RV.lt {l : List Nat} {c : Nat} (h : RV l c) : W.lV l < 4294967296 ^ c := W.low_of_zero h.lim h.zero
theorem RV.bits {l : List Nat} {c : Nat} (h : RV l c) (h0 : 0 < c) : bitLen (W.lV l) = 32 * (c - 1) + bitLen (l.getD (c - 1) 0) := by
 obtain ⟨k, rfl⟩ : ∃ k, c = k + 1 := ⟨c - 1, by omega⟩
 have hd := getD_div h.lim h.lt
 have ht : 0 < l.getD k 0 := by rcases h.top with h | h; omega; exact h
 rw [show k + 1 - 1 = k from rfl, hd]
 have e : (4294967296 : Nat) ^ k = 2 ^ (32 * k) := by rw [show (4294967296 : Nat) = 2 ^ 32 from rfl, ← Nat.pow_mul]
 rw [hd] at ht
 rw [e] at ht ⊢
 have : 2 ^ (32 * k) ≤ W.lV l := by
  rcases Nat.lt_or_ge (W.lV l) (2 ^ (32 * k)) with h | h
  ·rw [Nat.div_eq_of_lt h] at ht; omega
  ·exact h
 rw [bitLen_shift this]; omega
theorem RV.zeroVal {l : List Nat} (h : RV l 0) : W.lV l = 0 := by have := h.lt; rw [Nat.pow_zero] at this; omega
def BitPost (n : Nat) (w : World) (e : Ending) (w' : World) : Prop := e = .returned (.int .i64 (n : Int)) ∧ ∃ k, w' = w.drewN k
theorem bitCountP_any (g o c : Nat) (l : List Nat) (w : World) (h : RowP w g o l c) (hv : RV l c) (hc : c ≤ 81) :
  Calls Tryz.prog 152 #[.pointer (some ⟨g, o, none⟩)] w (BitPost (bitLen (W.lV l)) w) := by
 obtain ⟨c2, f2⟩ := h.cnt
 by_cases h0 : c = 0
 ·subst h0
  rw [hv.zeroVal]
  have q : ((((0 : Nat) : Int)) == 0) = true := rfl
  go_enter Tryz.func152, Tryz.ntmps152
  go_wp2
  go_ret
  exact ⟨rfl, 0, rfl⟩
 ·obtain ⟨k, rfl⟩ : ∃ k, c = k + 1 := ⟨c - 1, by omega⟩
  rw [hv.bits (by omega), show k + 1 - 1 = k from rfl]
  obtain ⟨c1, f1⟩ := h.cell (k := k) (by omega)
  have hx := W.getD_lt hv.lim k
  have H := Lib.hid (len32_any (l.getD k 0) hx)
  have hb := bitLen_32 hx
  obtain ⟨x, hx2⟩ : ∃ x, l.getD k 0 = x := ⟨_, rfl⟩
  rw [hx2] at c1 hx H hb ⊢
  obtain ⟨b, hb2⟩ : ∃ b, bitLen x = b := ⟨_, rfl⟩
  rw [hb2] at H hb ⊢
  have q : ((((k + 1 : Nat) : Int)) == 0) = false := by simp; omega
  have q1 : ((k + 1 : Nat) : Int) - 1 = (k : Int) := by omega
  have q2 : IntKind.i64.wrap (((k + 1 : Nat) : Int) - 1) = (k : Int) := by rw [IntWalk.i64_in _ (by omega)]; omega
  have q3 : (k : Int) < 81 := by omega
  have q4 : (0 : Int) ≤ (k : Int) := by omega
  have q5 : IntKind.i64.wrap (32 * (k : Int)) = 32 * (k : Int) := IntWalk.i64_in _ (by omega)
  have q6 : IntKind.i64.wrap (32 * (k : Int) + (b : Int)) = 32 * (k : Int) + (b : Int) := IntWalk.i64_in _ (by omega)
  clear hx2 hb2 h hv
  generalize hkk : ((k + 1 : Nat) : Int) = kk at *
  clear hkk
  go_enter Tryz.func152, Tryz.ntmps152
  go_wp2_with fail
  go_quiet ((go_at_call 182; exact Calls.quiet_of_same ((H.out _).mono fun _ _ h => ⟨h.1, h.2.symm⟩)))
  clear q2 q5 q6
  go_wp2
  go_ret
  exact ⟨ret_int (by omega), _, rfl⟩
theorem bitCount_any (g c : Nat) (l : List Nat) (w : World) (h : RowI w g l c) (hv : RV l c) (hc : c ≤ 81) :
  Calls Tryz.prog 152 #[.pointer (some ⟨g, 0, none⟩)] w (BitPost (bitLen (W.lV l)) w) := bitCountP_any g 0 c l w h.part hv hc
end Go.Proofs.YtdajgcgliidjbaaGreat
namespace Go.Proofs.YtdajgcgliidjbaaGreat
open Go.RowKit
theorem add32_any (x y c n p q : Nat) (hx : x < 4294967296) (hy : y < 4294967296) (hc : c ≤ 1) (hn : x + y + c = n) (hp : n % 4294967296 = p) (hq : n / 4294967296 = q) (w : World) :
  Calls Tryz.prog 187 #[.int .u32 (x : Int), .int .u32 (y : Int), .int .u32 (c : Int)] w fun e w' => e = .returned (.tuple #[.int .u32 (p : Int), .int .u32 (q : Int)]) ∧ w = w' := by
 have a1 : IntKind.u64.wrap (x : Int) = (x : Int) := by rw [IntKind.wrap_u64]; omega
 have a2 : IntKind.u64.wrap (y : Int) = (y : Int) := by rw [IntKind.wrap_u64]; omega
 have a3 : IntKind.u64.wrap (c : Int) = (c : Int) := by rw [IntKind.wrap_u64]; omega
 have a4 : IntKind.u64.wrap ((x : Int) + (y : Int)) = (x : Int) + (y : Int) := by rw [IntKind.wrap_u64]; omega
 have a5 : IntKind.u64.wrap ((x : Int) + (y : Int) + (c : Int)) = (n : Int) := by rw [IntKind.wrap_u64]; omega
 have a6 : (n : Int) % 4294967296 = (p : Int) := by omega
 have a7 : (n : Int) / 4294967296 = (q : Int) := by omega
 have a8 : (q : Int) % 4294967296 = (q : Int) := by omega
 have a9 : IntKind.u32.wrap (q : Int) = (q : Int) := by rw [IntKind.wrap_u32]; omega
 have b1 : IntKind.u32.wrap (n : Int) = (p : Int) := by rw [IntKind.wrap_u32]; omega
 clear hn hp hq
 go_enter Tryz.func187, Tryz.ntmps187
 go_wp2
 go_ret2
 exact ⟨rfl, rfl⟩
def tb (v : Int) : Bool := decide (2147483648 ≤ v)
def in32 (v : Int) : Prop := 0 ≤ v ∧ v < 4294967296
theorem of_in32 {v : Int} (h : in32 v) : ((BitVec.ofInt 32 v).toNat : Int) = v := by
 obtain ⟨h1, h2⟩ := h
 rw [BitVec.toNat_ofInt]; omega
theorem msb_tb {v : Int} (h : in32 v) : (BitVec.ofInt 32 v).msb = tb v := by
 have e := of_in32 h
 rw [BitVec.msb_eq_decide]
 unfold tb
 rw [Bool.eq_iff_iff]
 simp only [decide_eq_true_eq]
 constructor
 ·intro h1; have : (2 : Nat) ^ (32 - 1) = 2147483648 := rfl; omega
 ·intro h1; have : (2 : Nat) ^ (32 - 1) = 2147483648 := rfl; omega
theorem nat_in32 (v : BitVec 32) : in32 (v.toNat : Int) := ⟨by omega, by have := v.isLt; omega⟩
theorem msb_nat (v : BitVec 32) : tb (v.toNat : Int) = v.msb := by
 have := msb_tb (nat_in32 v)
 rw [← this]
 congr 1
 exact BitVec.eq_of_toNat_eq (by have := of_in32 (nat_in32 v); omega)
theorem bits_and32 (a b : Int) : bits .and .u32 a b = ((BitVec.ofInt 32 a &&& BitVec.ofInt 32 b).toNat : Int) := by
 show IntKind.u32.wrap _ = _
 have := nat_in32 (BitVec.ofInt 32 a &&& BitVec.ofInt 32 b)
 unfold in32 at this
 rw [IntKind.wrap_u32]
 exact Int.emod_eq_of_lt this.1 this.2
theorem bits_or32 (a b : Int) : bits .or .u32 a b = ((BitVec.ofInt 32 a ||| BitVec.ofInt 32 b).toNat : Int) := by
 show IntKind.u32.wrap _ = _
 have := nat_in32 (BitVec.ofInt 32 a ||| BitVec.ofInt 32 b)
 unfold in32 at this
 rw [IntKind.wrap_u32]
 exact Int.emod_eq_of_lt this.1 this.2
theorem bits_xor32 (a b : Int) : bits .xor .u32 a b = ((BitVec.ofInt 32 a ^^^ BitVec.ofInt 32 b).toNat : Int) := by
 show IntKind.u32.wrap _ = _
 have := nat_in32 (BitVec.ofInt 32 a ^^^ BitVec.ofInt 32 b)
 unfold in32 at this
 rw [IntKind.wrap_u32]
 exact Int.emod_eq_of_lt this.1 this.2
theorem tb_and {a b : Int} (ha : in32 a) (hb : in32 b) : tb (bits .and .u32 a b) = (tb a && tb b) ∧ in32 (bits .and .u32 a b) := by
 rw [bits_and32]; exact ⟨by rw [msb_nat, BitVec.msb_and, msb_tb ha, msb_tb hb], nat_in32 _⟩
theorem tb_or {a b : Int} (ha : in32 a) (hb : in32 b) : tb (bits .or .u32 a b) = (tb a || tb b) ∧ in32 (bits .or .u32 a b) := by
 rw [bits_or32]; exact ⟨by rw [msb_nat, BitVec.msb_or, msb_tb ha, msb_tb hb], nat_in32 _⟩
theorem tb_xor {a b : Int} (ha : in32 a) (hb : in32 b) : tb (bits .xor .u32 a b) = (tb a ^^ tb b) ∧ in32 (bits .xor .u32 a b) := by
 rw [bits_xor32]; exact ⟨by rw [msb_nat, BitVec.msb_xor, msb_tb ha, msb_tb hb], nat_in32 _⟩
theorem max32 : in32 IntKind.u32.max ∧ tb IntKind.u32.max = true := by
 have : IntKind.u32.max = 4294967295 := by decide
 rw [this]; exact ⟨⟨by omega, by omega⟩, by decide⟩
def brw (x y c : Nat) : Nat := if x < y + c then 1 else 0
theorem sub_bit {x y c : Nat} (hx : x < 4294967296) (hy : y < 4294967296) (hc : c ≤ 1) {D : Int} (hD : ((x : Int) - (y : Int) - (c : Int)) % 4294967296 = D) :
  bits .or .u32 (bits .and .u32 (bits .xor .u32 IntKind.u32.max (x : Int)) (y : Int)) (bits .and .u32 (bits .xor .u32 IntKind.u32.max (bits .xor .u32 (x : Int) (y : Int))) D) / 2147483648 = (brw x y c : Int) := by
 have ix : in32 (x : Int) := ⟨by omega, by omega⟩
 have iy : in32 (y : Int) := ⟨by omega, by omega⟩
 have iD : in32 D := ⟨by omega, by omega⟩
 obtain ⟨m1, m2⟩ := max32
 have nx := tb_xor m1 ix
 have xy := tb_xor ix iy
 have nxy := tb_xor m1 xy.2
 have l := tb_and nx.2 iy
 have r := tb_and nxy.2 iD
 have o := tb_or l.2 r.2
 generalize bits .or .u32 (bits .and .u32 (bits .xor .u32 IntKind.u32.max (x : Int)) (y : Int)) (bits .and .u32 (bits .xor .u32 IntKind.u32.max (bits .xor .u32 (x : Int) (y : Int))) D) = E at *
 have ho := o.1
 rw [l.1, r.1, nx.1, nxy.1, xy.1, m2] at ho
 obtain ⟨e1, e2⟩ := o.2
 unfold brw
 unfold tb at ho
 by_cases bx : (2147483648 : Int) ≤ (x : Int) <;> by_cases bY : (2147483648 : Int) ≤ (y : Int) <;> by_cases bD : (2147483648 : Int) ≤ D <;> simp [bx, bY, bD] at ho <;> split <;> omega
theorem ret_two {k : IntKind} {a b : Int} {c : Value} (h : a = b) : Ending.returned (.tuple #[.int k a, c]) = .returned (.tuple #[.int k b, c]) := by rw [h]
theorem sub32_any (x y c d q : Nat) (hx : x < 4294967296) (hy : y < 4294967296) (hc : c ≤ 1) (hq : brw x y c = q) (hd : x + 4294967296 * q = y + c + d) (w : World) :
  Calls Tryz.prog 193 #[.int .u32 (x : Int), .int .u32 (y : Int), .int .u32 (c : Int)] w fun e w' => e = .returned (.tuple #[.int .u32 (d : Int), .int .u32 (q : Int)]) ∧ w = w' := by
 have hq1 : q ≤ 1 := by rw [← hq]; unfold brw; split <;> omega
 have hd2 : d < 4294967296 := by
  unfold brw at hq
  split at hq <;> omega
 have hD : ((x : Int) - (y : Int) - (c : Int)) % 4294967296 = (d : Int) := by omega
 have key := sub_bit hx hy hc hD
 rw [hq] at key
 have hs : IntKind.u32.signed = false := rfl
 have HD : Hid ((((x : Int) - (y : Int)) % 4294967296 - (c : Int)) % 4294967296 = (d : Int)) := by show _ = _; omega
 clear hq hd
 go_enter Tryz.func193, Tryz.ntmps193
 go_wp2
 go_ret2
 exact ⟨ret_two HD.out, rfl⟩
theorem still_of {P : Program} {k : Nat} {args : Array Value} {v : Value} {w : World} (h : Calls P k args w fun e w' => e = .returned v ∧ w = w') : Calls P k args w fun e w' => e = .returned v ∧ w' = w := h.mono fun _ _ ⟨a, b⟩ => ⟨a, b.symm⟩
theorem orU64 (k a c : Nat) (hc : c < 2 ^ k) (h : 2 ^ k * a + c < 18446744073709551616) : bits .or .u64 (((2 ^ k * a : Nat) : Int)) (c : Int) = ((2 ^ k * a + c : Nat) : Int) := by
 show IntKind.u64.wrap ((BitVec.ofInt 64 ((2 ^ k * a : Nat) : Int) ||| BitVec.ofInt 64 (c : Int)).toNat : Nat) = _
 rw [BitVec.toNat_or, BitVec.toNat_ofInt, BitVec.toNat_ofInt]
 have e1 : (((2 ^ k * a : Nat) : Int) % ((2 ^ 64 : Nat) : Int)).toNat = 2 ^ k * a := by
  generalize 2 ^ k * a = y at *; omega
 have e2 : ((c : Int) % ((2 ^ 64 : Nat) : Int)).toNat = c := by
  generalize 2 ^ k * a = y at *; omega
 rw [e1, e2, ← Nat.two_pow_add_eq_or_of_lt hc]
 generalize 2 ^ k * a + c = y at *
 rw [IntKind.wrap_u64]; omega
theorem or64_32 {a c n : Nat} (ha : a < 4294967296) (hc : c < 4294967296) (hn : a * 4294967296 + c = n) : bits .or .u64 ((a : Int) * 4294967296) (c : Int) = (n : Int) ∧ IntKind.u64.wrap ((a : Int) * 4294967296) = (a : Int) * 4294967296 ∧ IntKind.u64.wrap (a : Int) = (a : Int) ∧ IntKind.u64.wrap (c : Int) = (c : Int) := by
 have h := orU64 32 a c (by omega) (by omega)
 refine ⟨?_, by rw [IntKind.wrap_u64]; omega, by rw [IntKind.wrap_u64]; omega, by rw [IntKind.wrap_u64]; omega⟩
 have e : ((2 ^ 32 * a : Nat) : Int) = (a : Int) * 4294967296 := by omega
 rw [e] at h
 rw [h]; omega
theorem div32_bd {h x d n : Nat} (hh : h < d) (hd : d < 4294967296) (hx : x < 4294967296) (hn : h * 4294967296 + x = n) : n / d < 4294967296 ∧ n % d < 4294967296 := by
 refine ⟨(Nat.div_lt_iff_lt_mul (by omega)).2 ?_, Nat.lt_trans (Nat.mod_lt _ (by omega)) hd⟩
 have : (h + 1) * 4294967296 ≤ d * 4294967296 := Nat.mul_le_mul_right _ hh
 rw [Nat.mul_comm 4294967296 d]; omega
theorem div32_any (h x d n q r : Nat) (hh : h < d) (hd : d < 4294967296) (hx : x < 4294967296) (hn : h * 4294967296 + x = n) (hq : n / d = q) (hr : n % d = r) (w : World) :
  Calls Tryz.prog 201 #[.int .u32 (h : Int), .int .u32 (x : Int), .int .u32 (d : Int)] w fun e w' => e = .returned (.tuple #[.int .u32 (q : Int), .int .u32 (r : Int)]) ∧ ∃ k, w' = w.drewN k := by
 obtain ⟨q1, r1⟩ := div32_bd hh hd hx hn
 rw [hq] at q1
 rw [hr] at r1
 obtain ⟨o1, o2, o3, o4⟩ := or64_32 (a := h) (c := x) (by omega) hx hn
 have t1 : ((d : Int) != 0) = true := by simp; omega
 have t2 : ¬ (d : Int) ≤ (h : Int) := by omega
 have t2' : decide ((d : Int) ≤ (h : Int)) = false := by simp; omega
 have t3 : IntKind.u64.wrap (d : Int) = (d : Int) := by rw [IntKind.wrap_u64]; omega
 have t4 : ((d : Int) == 0) = false := by simp; omega
 have t5 : (n : Int) / (d : Int) = (q : Int) := by rw [← hq]; simp
 have t6 : (n : Int) % (d : Int) = (r : Int) := by rw [← hr]; simp
 have t7 : (n : Int).tdiv (d : Int) = (q : Int) := by rw [Int.tdiv_eq_ediv_of_nonneg (by omega)]; exact t5
 have t8 : (n : Int).tmod (d : Int) = (r : Int) := by rw [Int.tmod_eq_emod_of_nonneg (by omega)]; exact t6
 have t9 : IntKind.u64.wrap (q : Int) = (q : Int) := by rw [IntKind.wrap_u64]; omega
 have u1 : IntKind.u32.wrap (q : Int) = (q : Int) := by rw [IntKind.wrap_u32]; omega
 have u2 : IntKind.u32.wrap (r : Int) = (r : Int) := by rw [IntKind.wrap_u32]; omega
 have u3 : ¬ (d : Int) = 0 := by omega
 have u4 : ¬ d = 0 := by omega
 clear hn hq hr
 go_enter Tryz.func201, Tryz.ntmps201
 go_wp2
 go_quiet (fail)
 go_wp2
 go_ret2
 exact ⟨rfl, _, rfl⟩
end Go.Proofs.YtdajgcgliidjbaaGreat
namespace Go.Proofs.YtdajgcgliidjbaaGreat
open Go.RowKit
theorem bitLen_bounds {V : Nat} (h : 0 < V) : 2 ^ (bitLen V - 1) ≤ V ∧ V < 2 ^ bitLen V ∧ 0 < bitLen V := by
 have h0 : V ≠ 0 := by omega
 have e : bitLen V = V.log2 + 1 := by unfold bitLen; rw [if_neg h0]
 rw [e, Nat.add_sub_cancel]
 exact ⟨(Nat.le_log2 h0).1 (Nat.le_refl _), (Nat.log2_lt h0).1 (Nat.lt_succ_self _), by omega⟩
def byteLen (V : Nat) : Nat := (bitLen V + 7) / 8
theorem byteLen_lt (V : Nat) : V < 256 ^ byteLen V := by
 rcases Nat.eq_zero_or_pos V with rfl | h
 ·decide
 ·have := (bitLen_bounds h).2.1
  have e : 2 ^ bitLen V ≤ 2 ^ (8 * byteLen V) := Nat.pow_le_pow_right (by omega) (by unfold byteLen; omega)
  rw [Nat.pow_mul, show (2 : Nat) ^ 8 = 256 from rfl] at e
  omega
theorem bitLen_pow {V c : Nat} (h : V < 4294967296 ^ c) : bitLen V ≤ 32 * c := by
 rcases Nat.eq_zero_or_pos V with rfl | h0
 ·exact Nat.zero_le _
 ·have a := (bitLen_bounds h0).1
  rw [show (4294967296 : Nat) = 2 ^ 32 from rfl, ← Nat.pow_mul] at h
  rcases Nat.lt_or_ge (32 * c) (bitLen V) with h1 | h1
  ·have : 2 ^ (32 * c) ≤ 2 ^ (bitLen V - 1) := Nat.pow_le_pow_right (by omega) (by omega)
   omega
  ·exact h1
theorem byteLen_ge {V : Nat} (h : 0 < byteLen V) : 256 ^ (byteLen V - 1) ≤ V := by
 have hV : 0 < V := by
  rcases Nat.eq_zero_or_pos V with rfl | h2
  ·exact absurd h (by decide)
  ·exact h2
 have b := bitLen_bounds hV
 have e : 2 ^ (8 * (byteLen V - 1)) ≤ 2 ^ (bitLen V - 1) := Nat.pow_le_pow_right (by omega) (by unfold byteLen at *; omega)
 rw [Nat.pow_mul] at e
 exact Nat.le_trans e b.1
structure OutRel (V n i : Nat) (L : List UInt8) : Prop where
 le : i ≤ n
 eq : ∃ s : List UInt8, L = List.replicate (n - i) 0 ++ s ∧ s.length = i ∧ bN s = V % 256 ^ i
theorem OutRel.start (V n : Nat) : OutRel V n 0 (List.replicate n 0) := ⟨Nat.zero_le _, [], by simp, rfl, by rw [Nat.pow_zero, Nat.mod_one]; rfl⟩
theorem OutRel.next {V n i : Nat} {L : List UInt8} (h : OutRel V n i L) (hi : i < n) : OutRel V n (i + 1) (L.set (n - 1 - i) (UInt8.ofNat (V / 256 ^ i % 256))) := by
 obtain ⟨_, s, rfl, hs, hv⟩ := h
 refine ⟨hi, UInt8.ofNat (V / 256 ^ i % 256) :: s, ?_, by rw [List.length_cons, hs], ?_⟩
 ·rw [show n - i = n - (i + 1) + 1 from by omega, show n - 1 - i = n - (i + 1) from by omega, ← List.replicate_append_replicate, List.append_assoc, List.set_append_right _ _ (by simp)]
  simp
 ·rw [bN_cons, byte_nat _ (Nat.mod_lt _ (by omega)), hs, hv, Nat.pow_succ, Nat.mod_mul, Nat.mul_comm, Nat.add_comm]
theorem OutRel.length {V n i : Nat} {L : List UInt8} (h : OutRel V n i L) : L.length = n := by
 obtain ⟨h1, s, rfl, hs, _⟩ := h
 rw [List.length_append, List.length_replicate, hs]; omega
theorem OutRel.done {V : Nat} {L : List UInt8} (h : OutRel V (byteLen V) (byteLen V) L) : L = gT V := by
 have hl := h.length
 obtain ⟨_, s, hL, hs, hv⟩ := h
 rw [Nat.sub_self, List.replicate_zero, List.nil_append] at hL
 subst hL
 rw [Nat.mod_eq_of_lt (byteLen_lt V)] at hv
 rw [← hv]
 refine (gT_bN _ ?_).symm
 cases L with
 | nil => rfl
 | cons c r =>
  simp only [headOk, decide_eq_true_eq]
  intro e
  have := byteLen_ge (V := V) (by rw [← hs, List.length_cons]; omega)
  rw [← hs, List.length_cons, Nat.add_sub_cancel, ← hv, bN_cons, e, Nat.zero_mul, Nat.zero_add] at this
  have := bN_lt r
  omega
theorem bound_long {V : Nat} (h : 160 < byteLen V) : boundG (gS V) = ⟨#[]⟩ := by
 have := byteLen_ge (V := V) (by omega)
 have e : 256 ^ 160 ≤ 256 ^ (byteLen V - 1) := Nat.pow_le_pow_right (by omega) (by omega)
 rw [boundG_gS, if_neg (by unfold GB; omega), gS_zero]
theorem bound_short {V : Nat} (h : byteLen V ≤ 160) : boundG (gS V) = gS V := by
 have := byteLen_lt V
 have e : 256 ^ byteLen V ≤ 256 ^ 160 := Nat.pow_le_pow_right (by omega) h
 rw [boundG_gS, if_pos (by unfold GB; omega)]
theorem limb_byte {l : List Nat} (h : W.Limbs l) (i : Nat) : l.getD (i / 4) 0 / 2 ^ (8 * (i % 4)) % 256 = W.lV l / 256 ^ i % 256 := by
 have e256 : (256 : Nat) ^ i = 4294967296 ^ (i / 4) * 2 ^ (8 * (i % 4)) := by
  rw [show (256 : Nat) = 2 ^ 8 from rfl, show (4294967296 : Nat) = 2 ^ 32 from rfl, ← Nat.pow_mul, ← Nat.pow_mul, ← Nat.pow_add]; congr 1; omega
 have hd := W.lV_dig h (i / 4)
 rw [e256, ← Nat.div_div_eq_div_mul, hd]
 obtain ⟨k, hk⟩ : ∃ k, 32 = 8 * (i % 4) + 8 + k := ⟨32 - 8 * (i % 4) - 8, by omega⟩
 have e32 : (4294967296 : Nat) = 2 ^ (8 * (i % 4)) * (256 * 2 ^ k) := by
  rw [show (256 : Nat) = 2 ^ 8 from rfl, ← Nat.mul_assoc, ← Nat.pow_add, ← Nat.pow_add, ← hk]
 have hp : 0 < 2 ^ (8 * (i % 4)) := Nat.pow_pos (by omega)
 generalize W.lV l / 4294967296 ^ (i / 4 + 1) = z
 rw [e32, Nat.mul_assoc, Nat.add_mul_div_left _ _ hp, Nat.mul_assoc, Nat.add_mul_mod_self_left]
theorem greatP_any (g o c : Nat) (l : List Nat) (w : World) (h : RowP w g o l c) (hv : RV l c) (hc : c ≤ 81) :
  Calls Tryz.prog 110 #[.pointer (some ⟨g, o, none⟩)] w fun e w' => e = .returned (.string (boundG (gS (W.lV l)))) ∧ Below w.heap.size w w' := by
 obtain ⟨i0, hi, hz0, hz1, hz2⟩ := info_parts Tryz.infoB
 have HB := Lib.hid (bitCountP_any g o c l w h hv hc)
 obtain ⟨V, hV⟩ : ∃ V, W.lV l = V := ⟨_, rfl⟩
 obtain ⟨b, hb⟩ : ∃ b, bitLen V = b := ⟨_, rfl⟩
 have hb2 : b ≤ 2592 := by
  have := bitLen_pow hv.lt
  rw [hV, hb] at this
  omega
 obtain ⟨n, hn⟩ : ∃ n, byteLen V = n := ⟨_, rfl⟩
 have hnb : (b + 7) / 8 = n := by rw [← hn]; unfold byteLen; rw [hb]
 rw [hV] at HB ⊢
 rw [hb] at HB
 have q1 : ((b : Int) + 7) / 8 = (n : Int) := by omega
 have HR := Lib.hid h
 have HL := Lib.hid hv.lim
 have HV := Lib.hid hV
 have HN := Lib.hid hn
 have hlt := h.lt
 by_cases h160 : 160 < n
 ·rw [bound_long (V := V) (by rw [hn]; exact h160)]
  have h1 : (160 : Int) < (n : Int) := by omega
  clear h hv hV hb hn hnb
  go_enter Tryz.func110, Tryz.ntmps110
  go_wp2_with fail
  refine HB.out.mono ?_
  rintro e w1 ⟨rfl, k, rfl⟩
  go_wp2
  go_ret
  exact ⟨rfl, bdN (Below.refl _ _) _⟩
 ·rw [bound_short (V := V) (by rw [hn]; omega)]
  have h1 : ¬ (160 : Int) < (n : Int) := by omega
  clear h hv hV hb hn hnb
  go_enter Tryz.func110, Tryz.ntmps110
  go_wp2_with fail
  refine HB.out.mono ?_
  rintro e w1 ⟨rfl, k, rfl⟩
  have HR2 : Hid (RowP (w.drewN k) g o l c) := HR.out.other rfl
  have hbw : Below w.heap.size w (w.drewN k) := bdN (Below.refl _ _) _
  have hsz : (w.drewN k).heap.size = w.heap.size := rfl
  rw [← hsz] at hlt
  have HBW := Lib.hid hbw
  clear HR HB hsz hbw
  generalize w.drewN k = w1 at *
  go_wp2_with (at_make; refine wpList_make_full _ rfl _ _ 22 rfl w1.heap.size 5 i0 (.int .u8 0) 1 Tryz.underlying22 hi hz0 hz1 .i64 .i64 _ _ n rfl rfl (by first | rfl | omega) (by first | rfl | omega) (by rw [hz2]; omega) (by unfold maxLen; omega) (Nat.le_refl _) ?_; intro w0 hown0 hgrow0)
  have hb0 : Below w1.heap.size w1 w0 := (Below.refl _ _).grown hgrow0 (Nat.le_refl _) (fun k hk => by cases hk)
  have hO0 : w0.ownsRow w1.heap.size 5 1 (.slice (some ⟨w1.heap.size, 0, none⟩) n n) n (Lib.byteCells (List.replicate n 0)) := by
   have e : Lib.byteCells (List.replicate n 0) = (madeCells (Value.cells (.int .u8 0)) (n * 1)).toList := by
    have := toList_madeCells_one (.int .u8 0) (n * 1)
    simp only [Value.cells] at this ⊢
    rw [this]
    simp [Lib.byteCells]
   rw [e]; exact hown0
  have hR0 := Lib.hid hO0
  clear hown0 hgrow0 hO0
  have hd160 : decide (160 < (n : Int)) = false := by simpa using h1
  go_loopw [15] (fun iv wr => ∃ (i : Nat) (L : List UInt8), i ≤ n ∧ iv = .int .i64 i ∧ Hid (OutRel V n i L) ∧ Hid (wr.ownsRow w1.heap.size 5 1 (.slice (some ⟨w1.heap.size, 0, none⟩) n n) n (Lib.byteCells L)) ∧ Below w1.heap.size w1 wr) (fun iv _ => n - (intOf iv).toNat)
  case atStart => exact ⟨0, _, Nat.zero_le _, rfl, OutRel.start V n, hR0, hb0⟩
  case round =>
   clear hR0 hb0
   obtain ⟨i, L, hin, rfl, hI, hO, hb⟩ := hrel
   have hbs := hb.size
   by_cases hlt2 : i < n
   ·have hlt' : (i : Int) < (n : Int) := by omega
    have HR3 := HR2.out.below hb hlt
    obtain ⟨q, hq⟩ : ∃ q, i / 4 = q := ⟨_, rfl⟩
    obtain ⟨t, ht⟩ : ∃ t, 8 * (i % 4) = t := ⟨_, rfl⟩
    obtain ⟨c1, f1⟩ := HR3.cell (k := q) (by omega)
    obtain ⟨x, hx⟩ : ∃ x, l.getD q 0 = x := ⟨_, rfl⟩
    have hxl : x < 4294967296 := by rw [← hx]; exact W.getD_lt HL.out q
    have hbyte := limb_byte HL.out i
    rw [HV.out, hq, ht, hx] at hbyte
    have hN := hI.out.next hlt2
    obtain ⟨j, hj⟩ : ∃ j, n - 1 - i = j := ⟨_, rfl⟩
    obtain ⟨u, hu⟩ : ∃ u, UInt8.ofNat (V / 256 ^ i % 256) = u := ⟨_, rfl⟩
    rw [hj, hu] at hN
    rw [hx] at c1
    obtain ⟨y, hy⟩ : ∃ y, x / 2 ^ t = y := ⟨_, rfl⟩
    rw [hy] at hbyte
    have hu2 : u.toNat = y % 256 := by rw [← hu, byte_nat _ (Nat.mod_lt _ (by omega)), hbyte]
    have hyx : y ≤ x := by rw [← hy]; exact Nat.div_le_self _ _
    have hy2 : (x : Int) / 2 ^ t = (y : Int) := by rw [← hy]; simp
    have hw : IntKind.u8.wrap (y : Int) = (u.toNat : Int) := by rw [IntKind.wrap_u8, hu2]; omega
    obtain ⟨v, hcv⟩ : ∃ v, wr.cell? ⟨w1.heap.size, j, none⟩ = some v := ⟨_, (hO.out.cellAt j (by omega)).trans (List.getElem?_eq_getElem (by rw [hO.out.1]; omega))⟩
    have hfv := hO.out.frozenAt j
    have S1 := (hO.out.stored j (.int .u8 (u.toNat : Int))).1
    rw [byteCells_set] at S1
    have HS := Lib.hid S1
    have HN2 := Lib.hid hN
    have d1 : (i : Int) / 4 = (q : Int) := by omega
    have d2 : (q : Int) < 81 := by omega
    have d3 : (n : Int) - 1 - (i : Int) = (j : Int) := by omega
    have d4 : (j : Int) < (n : Int) := by omega
    have d5 : 8 * ((i : Int) % 4) = (t : Int) := by omega
    have d6 : (t : Int) ≤ 32 := by omega
    have d7 : t ≤ 32 := by omega
    have hne : ¬ g = w1.heap.size := by omega
    clear hq ht hx hbyte hN hj hu hy hu2 hI hO S1 HR3
    go_wp2
    go_roundw
    case rel => exact ⟨i + 1, L.set j u, by omega, by go_num, HN2, HS, hb.setCell (p := ⟨w1.heap.size, j, none⟩) (Nat.le_refl _) _⟩
    case measure => simp [intOf]; omega
   ·obtain rfl : i = n := by omega
    have hlt' : ¬ (i : Int) < (i : Int) := by omega
    have hL : L = gT V := by
     have := hI.out
     rw [← HN.out] at this
     exact this.done
    have hcv := conv_own (P := Tryz.prog) (src := 22) (dst := 9) (e := 5) Tryz.underlying22 Tryz.underlying5 Tryz.underlying9 hO.out
    rw [hL] at hcv
    have hbb : Below w.heap.size w wr := HBW.out.trans (hb.mono (HBW.out.size))
    clear hI hO hL
    go_wp2
    go_ret
    exact ⟨rfl, hbb⟩
theorem great_any (g c : Nat) (l : List Nat) (w : World) (h : RowI w g l c) (hv : RV l c) (hc : c ≤ 81) :
  Calls Tryz.prog 110 #[.pointer (some ⟨g, 0, none⟩)] w fun e w' => e = .returned (.string (boundG (gS (W.lV l)))) ∧ Below w.heap.size w w' := greatP_any g 0 c l w h.part hv hc
end Go.Proofs.YtdajgcgliidjbaaGreat
namespace Go.Proofs.YtdajgcgliidjbaaGreat
open Go.RowKit
theorem greatOk_i (s : ByteArray) (w : World) : Calls Tryz.prog 145 #[.string s] w fun e w' => e = .returned (.bool (okG s)) ∧ w = w' := by
 by_cases h1 : 160 < s.size
 ·have hd : decide ((s.size : Int) ≤ 160) = false := by simp; omega
  rw [okG_long h1]
  go_enter Tryz.func145, Tryz.ntmps145
  go_wp2
  go_ret
  exact ⟨rfl, rfl⟩
 have hd : decide ((s.size : Int) ≤ 160) = true := by simp; omega
 by_cases h2 : s.size = 0
 ·have he : s.toList = [] := by have := isEmpty_size (s := s); rw [h2] at this; simpa using this
  rw [okG_empty h2]
  clear h2
  go_enter Tryz.func145, Tryz.ntmps145
  go_wp2
  go_ret
  exact ⟨rfl, rfl⟩
 ·have he : s.toList.isEmpty = false := by rw [isEmpty_size]; simpa using h2
  have h3 : 0 < s.size := by omega
  have h4 : (0 : Int) < (s.size : Int) := by omega
  rw [okG_head h3 (by omega)]
  clear h2
  go_enter Tryz.func145, Tryz.ntmps145
  go_wp2
  go_ret
  exact ⟨rfl, rfl⟩
theorem okG_size' {s : ByteArray} (h : okG s = true) : s.size ≤ 160 := by
 simp only [okG, Bool.and_eq_true, decide_eq_true_eq] at h; exact h.1
theorem bits_first {s : ByteArray} (ok : okG s = true) (h : 0 < s.size) : bitLen (gV s) = 8 * (s.size - 1) + bitLen s[0].toNat := by
 have hv := head_val h
 have hlt := gV_size s
 have hge := gV_ge ok h
 have hd : gV s / 256 ^ (s.size - 1) < 256 := by
  rw [Nat.div_lt_iff_lt_mul (Nat.pow_pos (by omega)), ← Nat.pow_succ', show (s.size - 1).succ = s.size from by omega]; exact hlt
 rw [Nat.mod_eq_of_lt hd] at hv
 have e : (256 : Nat) ^ (s.size - 1) = 2 ^ (8 * (s.size - 1)) := by rw [show (256 : Nat) = 2 ^ 8 from rfl, ← Nat.pow_mul]
 rw [e] at hv hge
 rw [bitLen_shift hge, hv]; omega
theorem bitsOf_i (s : ByteArray) (w : World) : Calls Tryz.prog 185 #[.string s] w fun e w' => e = .returned (.int .i64 (bitsG s)) ∧ w = w' := by
 have HG := greatOk_i s
 unfold bitsG
 cases ok : okG s with
 | false =>
  rw [ok] at HG
  go_enter Tryz.func185, Tryz.ntmps185
  go_wp2_with fail
  refine (HG _).mono ?_
  rintro e w1 ⟨rfl, rfl⟩
  go_wp2
  go_ret
  exact ⟨rfl, rfl⟩
 | true =>
  rw [ok] at HG
  have hs := okG_size' ok
  by_cases h0 : s.size = 0
  ·have he : s.toList = [] := by have := isEmpty_size (s := s); rw [h0] at this; simpa using this
   have E : Hid (bitLen (gV s) = 0) := by
    show _ = _
    have : s.data.toList = [] := List.eq_nil_of_length_eq_zero (by simpa using h0)
    unfold gV; rw [this]; rfl
   clear h0
   go_enter Tryz.func185, Tryz.ntmps185
   go_wp2_with fail
   refine (HG _).mono ?_
   rintro e w1 ⟨rfl, rfl⟩
   go_wp2
   go_ret
   exact ⟨by rw [E.out]; rfl, rfl⟩
  ·have he : s.toList.isEmpty = false := by rw [isEmpty_size]; simpa using h0
   have hp : 0 < s.size := by omega
   have h4 : (0 : Int) < (s.size : Int) := by omega
   have E := Lib.hid (bits_first ok hp)
   have hc := s[0].toNat_lt
   have H := Lib.hid (len8_any s[0].toNat hc)
   have hb := bitLen_small hc
   obtain ⟨b, hb2⟩ : ∃ b, bitLen s[0].toNat = b := ⟨_, rfl⟩
   rw [hb2] at H hb E
   clear hb2 h0 ok
   go_enter Tryz.func185, Tryz.ntmps185
   go_wp2_with fail
   refine (HG _).mono ?_
   rintro e w1 ⟨rfl, rfl⟩
   go_wp2_with fail
   refine (H.out _).mono ?_
   rintro e w1 ⟨rfl, rfl⟩
   go_wp2
   go_ret
   exact ⟨ret_int (by rw [E.out]; show _ = ((8 * (s.size - 1) + b : Nat) : Int); omega), rfl⟩
theorem greatInt_i (s : ByteArray) (w : World) : Calls Tryz.prog 183 #[.string s] w (IntPost s w) := by
 have HG := greatOk_i s
 have HB := bitsOf_i s
 cases ok : okG s with
 | false =>
  rw [ok] at HG
  have N := Lib.hid (int_no (s := s) (by unfold intB; rw [ok]; rfl))
  go_enter Tryz.func183, Tryz.ntmps183
  go_wp2_with fail
  refine (HG _).mono ?_
  rintro e w1 ⟨rfl, rfl⟩
  go_wp2
  go_ret2
  exact N.out _
 | true =>
  rw [ok] at HG
  have hbg : bitsG s = (bitLen (gV s) : Int) := by unfold bitsG; rw [ok]; rfl
  rw [hbg] at HB
  have hs := okG_size' ok
  have hiff : intB s = decide (bitLen (gV s) ≤ 63) := by
   unfold intB
   rw [ok, Bool.true_and, Bool.eq_iff_iff]
   simp only [decide_eq_true_eq]
   unfold bitLen
   by_cases hz : gV s = 0
   ·rw [if_pos hz, hz]; simp
   ·rw [if_neg hz]
    have := Nat.log2_lt hz (k := 63)
    constructor
    ·intro h; have := this.2 (by omega); omega
    ·intro h; have := this.1 (by omega); omega
  cases hB : intB s with
  | false =>
   have N := Lib.hid (int_no hB)
   rw [hB] at hiff
   have h63 : (63 : Int) < (bitLen (gV s) : Int) := by have := hiff.symm; simp at this; omega
   clear hiff hB hbg ok
   generalize bitLen (gV s) = bl at *
   go_enter Tryz.func183, Tryz.ntmps183
   go_wp2_with fail
   refine (HG _).mono ?_
   rintro e w1 ⟨rfl, rfl⟩
   go_wp2_with fail
   refine (HB _).mono ?_
   rintro e w1 ⟨rfl, rfl⟩
   go_wp2
   go_ret2
   exact N.out _
  | true =>
   have Y : Hid (∀ w, IntPost s w (.returned (.tuple #[.int .i64 (gV s : Int), .bool true])) w) := fun w => ⟨by unfold intG; rw [hB]; rfl, rfl⟩
   have hV : Hid (gV s < 9223372036854775808) := by
    have := hB
    unfold intB at this
    rw [ok, Bool.true_and] at this
    show gV s < 9223372036854775808
    simpa using this
   rw [hB] at hiff
   have h63 : ¬ (63 : Int) < (bitLen (gV s) : Int) := by have := hiff.symm; simp at this; omega
   clear hiff hB hbg ok
   generalize bitLen (gV s) = bl at *
   go_enter Tryz.func183, Tryz.ntmps183
   go_wp2_with fail
   refine (HG _).mono ?_
   rintro e w1 ⟨rfl, rfl⟩
   go_wp2_with fail
   refine (HB _).mono ?_
   rintro e w1 ⟨rfl, rfl⟩
   clear HG HB
   go_wp2
   go_loop [4, 16] (fun nv iv => ∃ i : Nat, i ≤ s.size ∧ iv = .int .i64 i ∧ nv = .int .i64 (bN (s.data.toList.take i) : Int)) (fun _ iv => s.size - (intOf iv).toNat)
   case atStart => exact ⟨0, by omega, rfl, by simp [bN]⟩
   case round =>
    obtain ⟨i, his, rfl, rfl⟩ := hrel
    by_cases hlt : i < s.size
    ·have hlt' : (i : Int) < (s.size : Int) := by omega
     have e := take_snoc s i hlt
     have hle := bN_take_le s.data.toList (i + 1)
     rw [e, bN_snoc] at hle
     have hle2 := Nat.lt_of_le_of_lt hle hV.out
     have hc := s[i].toNat_lt
     have E : Hid (bN (s.data.toList.take (i + 1)) = 256 * bN (s.data.toList.take i) + s[i].toNat) := by rw [e, bN_snoc]; exact rfl
     obtain ⟨n, hn⟩ : ∃ n, bN (s.data.toList.take i) = n := ⟨_, rfl⟩
     rw [hn] at hle2 E ⊢
     have ho := orL8 n s[i].toNat hc hle2
     have q1 : IntKind.i64.wrap (256 * (n : Int)) = 256 * (n : Int) := IntWalk.i64_in _ (by omega)
     have q2 : IntKind.i64.wrap ((n : Int) * 256) = 256 * (n : Int) := by rw [IntWalk.i64_in _ (by omega)]; omega
     clear hn hle hle2 e
     go_wp2
     go_round
     case rel => exact ⟨i + 1, by omega, by go_num, by rw [E.out]; simp⟩
     case measure => simp [intOf]; omega
    ·obtain rfl : i = s.size := by omega
     rw [take_all]
     go_wp2
     go_ret2
     exact Y.out _
theorem bitOf_i (s : ByteArray) (i : Int) (hi : -9223372036854775808 ≤ i ∧ i ≤ 9223372036854775807) (w : World) : Calls Tryz.prog 114 #[.string s, .int .i64 i] w fun e w' => e = .returned (.int .i64 (bitG s i)) ∧ w = w' := by
 have HG := greatOk_i s
 unfold bitG
 cases ok : okG s with
 | false =>
  rw [ok] at HG
  go_enter Tryz.func114, Tryz.ntmps114
  go_wp2_with fail
  refine (HG _).mono ?_
  rintro e w1 ⟨rfl, rfl⟩
  go_wp2
  go_ret
  exact ⟨rfl, rfl⟩
 | true =>
  rw [ok] at HG
  have hs := okG_size' ok
  by_cases h0 : i < 0
  ·have hd : decide (0 ≤ i) = false := by simpa using h0
   rw [hd]
   clear hd
   go_enter Tryz.func114, Tryz.ntmps114
   go_wp2_with fail
   refine (HG _).mono ?_
   rintro e w1 ⟨rfl, rfl⟩
   go_wp2
   go_ret
   exact ⟨rfl, rfl⟩
  ·obtain ⟨k, rfl⟩ : ∃ k : Nat, i = (k : Int) := ⟨i.toNat, by omega⟩
   have hd : decide (0 ≤ (k : Int)) = true := by simp
   rw [hd, Int.toNat_natCast]
   by_cases h1 : k / 8 < s.size
   ·have hd1 : decide (k / 8 < s.size) = true := by simpa using h1
    have h2 : ¬ 8 * (s.size : Int) ≤ (k : Int) := by omega
    rw [hd1]
    have B := bit_at h1
    obtain ⟨j, hj⟩ : ∃ j, s.size - 1 - k / 8 = j := ⟨_, rfl⟩
    obtain ⟨r, hr⟩ : ∃ r, k % 8 = r := ⟨_, rfl⟩
    have hjs : j < s.size := by omega
    simp only [hj, hr] at B
    have j1 : (s.size : Int) - 1 - (k : Int) / 8 = (j : Int) := by omega
    have j2 : (k : Int) % 8 = (r : Int) := by omega
    have j3 : (j : Int) < (s.size : Int) := by omega
    have j4 : (r : Int) ≤ 8 := by omega
    obtain ⟨y, hy⟩ : ∃ y, s[j].toNat / 2 ^ r = y := ⟨_, rfl⟩
    have hy2 : (s[j].toNat : Int) / 2 ^ r = (y : Int) := by rw [← hy]; simp
    have hy3 : y < 256 := by rw [← hy]; exact Nat.lt_of_le_of_lt (Nat.div_le_self _ _) s[j].toNat_lt
    have hand : bits .and .i64 (y : Int) 1 = ((y % 2 : Nat) : Int) := by
     have h255 : (BitVec.ofInt 64 1).toNat = 2 ^ 1 - 1 := by decide
     have key : (BitVec.ofInt 64 (y : Int) &&& BitVec.ofInt 64 1).toNat = ((y : Int) % ((2 ^ 64 : Nat) : Int)).toNat % 2 ^ 1 := by
      rw [BitVec.toNat_and, BitVec.toNat_ofInt, h255, Nat.and_two_pow_sub_one_eq_mod]
     show IntKind.i64.wrap ((BitVec.ofInt 64 (y : Int) &&& BitVec.ofInt 64 1).toNat : Nat) = _
     rw [key, IntKind.wrap_i64]
     omega
    rw [hy] at B
    rw [← B]
    obtain ⟨z, hz⟩ : ∃ z, y % 2 = z := ⟨_, rfl⟩
    rw [hz] at hand ⊢
    clear B hj hr hy hz h1 hd hd1
    go_enter Tryz.func114, Tryz.ntmps114
    go_wp2_with fail
    refine (HG _).mono ?_
    rintro e w1 ⟨rfl, rfl⟩
    go_wp2
    go_ret
    exact ⟨rfl, rfl⟩
   ·have hd1 : decide (k / 8 < s.size) = false := by simpa using h1
    have h2 : 8 * (s.size : Int) ≤ (k : Int) := by omega
    rw [hd1]
    clear hd hd1
    go_enter Tryz.func114, Tryz.ntmps114
    go_wp2_with fail
    refine (HG _).mono ?_
    rintro e w1 ⟨rfl, rfl⟩
    go_wp2
    go_ret
    exact ⟨rfl, rfl⟩
end Go.Proofs.YtdajgcgliidjbaaGreat
namespace Go.Proofs.YtdajgcgliidjbaaGreat
open Go.RowKit
theorem RV.cnt_le {l : List Nat} {c k : Nat} (h : RV l c) (hv : W.lV l < 4294967296 ^ k) : c ≤ k := by
 rcases Nat.lt_or_ge k c with hk | hk
 ·exfalso
  have ht : 0 < l.getD (c - 1) 0 := by rcases h.top with h | h; omega; exact h
  rw [W.high_zero h.lim hv (k := c - 1) (by omega)] at ht
  omega
 ·exact hk
theorem GB_40 : GB = 4294967296 ^ 40 := by unfold GB; decide
theorem RV.cnt40 {l : List Nat} {c : Nat} {s : ByteArray} (h : RV l c) (hv : W.lV l = gV s) (ok : okG s = true) : c ≤ 40 := h.cnt_le (by rw [hv, ← GB_40]; exact gV_lt ok)
structure Vars (w w' : World) (lx : List Nat) (cx : Nat) (ly : List Nat) (cy : Nat) : Prop where
 x : RowI w' w.heap.size lx cx
 y : RowI w' (w.heap.size + 1) ly cy
 b : Below w.heap.size w w'
theorem Vars.of {w w' : World} {lx ly : List Nat} {cx cy : Nat} (h : Work w w' Z81 0) (hx : lx.length = 81) (hy : ly.length = 81) :
  Vars w ((w'.setRow w.heap.size (rowC lx cx)).setRow (w.heap.size + 1) (rowC ly cy)) lx cx ly cy :=
 ⟨(h.out.stored hx).storedApart (by omega), ((h.row.storedApart (by omega)).stored hy), below_setRow (below_setRow h.b (Nat.le_refl _) _) (by omega) _⟩
theorem one_var (w : World) {Z : Array Value} (hZ : rowC Z81 0 = Z) : RowI (w.alloc (.cells Z 100)) w.heap.size Z81 0 ∧ Below w.heap.size w (w.alloc (.cells Z 100)) := by
 subst hZ
 exact ⟨⟨Z81_len, heap_alloc_new w _⟩, (Below.refl _ _).alloc (Nat.le_refl _) _⟩
end Go.Proofs.YtdajgcgliidjbaaGreat
namespace Go.Proofs.YtdajgcgliidjbaaGreat
theorem lt_bits (N : Nat) : N < 2 ^ bitLen N := by
 rcases Nat.eq_zero_or_pos N with e | e
 ·rw [e]; decide
 ·exact (bitLen_bounds e).2.1
theorem bits_1280 {s : ByteArray} (ok : okG s = true) : bitLen (gV s) ≤ 1280 := by
 have := bitLen_pow (V := gV s) (c := 40) (by rw [← GB_40]; exact gV_lt ok)
 omega
theorem bit_pow {s : ByteArray} (ok : okG s = true) {i : Nat} (hi : i < bitLen (gV s)) : bitG s (i : Int) = ((gV s / 2 ^ i % 2 : Nat) : Int) := by
 unfold bitG
 have hsz : i / 8 < s.size := by
  rcases Nat.lt_or_ge (i / 8) s.size with h | h
  ·exact h
  ·exfalso
   have h1 : gV s < 2 ^ (8 * s.size) := by
    have := gV_size s
    rw [show (256 : Nat) = 2 ^ 8 from rfl, ← Nat.pow_mul] at this
    exact this
   have h2 : bitLen (gV s) ≤ 8 * s.size := by
    unfold bitLen
    split
    ·omega
    ·rename_i hN0
     exact (Nat.log2_lt hN0).2 h1
   omega
 rw [ok, Int.toNat_natCast, decide_eq_true (show (0 : Int) ≤ (i : Int) by omega), decide_eq_true hsz]
 rfl
end Go.Proofs.YtdajgcgliidjbaaGreat

import Derived.Test.YtkmmlfocidfghaaDraw
import Derived.Test.YtkmmlfocidfghaaNArith
namespace Go.Proofs.Ytkmmlfocidfghaa
open Go.RowKit
theorem grow_of_below {w w' : World} (h : Below w.heap.size w w') (row : Option Nat) : w.grownBy w' row := ⟨h.os, h.tape, h.output, h.size, fun i hi _ => h.block i hi⟩
/-! l01Long -/
def LongPost (w : World) (e : Ending) (w' : World) : Prop := ∃ t : ByteArray, e = .returned (.string t) ∧ t.size ≤ 900 ∧ Below w.heap.size w w'
/-! l01Pick -/
/-- A row of texts. -/
def Texts (w : World) (gl k : Nat) : Prop := ∀ i, i < k → ∃ t : ByteArray, w.cell? ⟨gl, i, none⟩ = some (.string t) ∧ t.size ≤ 950
/-! l02Great -/
def isStr : Value → Bool
  | .string t => Nat.ble t.size 950
  | _ => false
theorem ble_of {n m : Nat} (h : n ≤ m) : Nat.ble n m = true := Nat.ble_eq_true_of_le h
theorem bound_size (s : ByteArray) : (boundG s).size ≤ 950 := by
  unfold boundG
  split
  · rename_i h
    have := okG_size h; omega
  · decide
theorem of_size {n : Int} (h : n < 9223372036854775808) : (ofI n).size ≤ 950 := by
  unfold ofI
  rw [gS_size]
  have : (gT n.toNat).length ≤ 8 := gT_len_lt (by omega)
  omega
theorem texts_new (w : World) (l : List Value) (t : TypeId) (h : l.all isStr = true) : Texts (w.alloc (.cells l.toArray t)) w.heap.size l.length := fun i hi => by
  have h1 := cell_of_row (w.alloc (.cells l.toArray t)) w.heap.size i _ _ _ (heap_alloc_new w _)
  rw [List.getElem?_toArray, List.getElem?_eq_getElem hi] at h1
  have h2 := List.all_eq_true.1 h l[i] (List.getElem_mem hi)
  cases hv : l[i] with
  | string s => exact ⟨s, by rw [h1, hv], by rw [hv] at h2; exact Nat.le_of_ble_eq_true h2⟩
  | _ => rw [hv] at h2; cases h2
theorem text_len {t : ByteArray} {l : List Nat} {K : Nat} (ht : t.size ≤ K) (p : InP (gV t) l) : l.length ≤ K := by
  have h := gV_size t
  have a : 256 ^ t.size ≤ 256 ^ K := Nat.pow_le_pow_right (by omega) ht
  have b : 256 ^ K ≤ 16777216 ^ K := Nat.pow_le_pow_left (by omega) _
  exact p.len (Nat.lt_of_lt_of_le h (Nat.le_trans a b))
def Yes (w : World) (e : Ending) (w' : World) : Prop := e = .returned (.bool true) ∧ Below w.heap.size w w'
theorem DrawIn.on {w w' : World} {n : Nat} {A : Option Addr} (h : DrawIn w w.heap.size A n) (hb : Below w.heap.size w w') : DrawIn w' w'.heap.size A n :=
  ⟨h.1, fun k hk => by
    obtain ⟨b, off, c, e, hB, c0, c1, hc⟩ := (h.below hb).2 k hk
    exact ⟨b, off, c, e, Nat.lt_of_lt_of_le hB hb.size, c0, c1, hc⟩⟩
/-- A row of numbers. -/
def Nums (w : World) (gl k : Nat) : Prop := ∀ i, i < k → ∃ x : Int, w.cell? ⟨gl, i, none⟩ = some (.int .i64 x) ∧ -9223372036854775808 ≤ x ∧ x ≤ 9223372036854775807
def isNum : Value → Bool
  | .int .i64 x => decide (-9223372036854775808 ≤ x) && decide (x ≤ 9223372036854775807)
  | _ => false
theorem nums_new (w : World) (l : List Value) (t : TypeId) (h : l.all isNum = true) : Nums (w.alloc (.cells l.toArray t)) w.heap.size l.length := fun i hi => by
  have h1 := cell_of_row (w.alloc (.cells l.toArray t)) w.heap.size i _ _ _ (heap_alloc_new w _)
  rw [List.getElem?_toArray, List.getElem?_eq_getElem hi] at h1
  have h2 := List.all_eq_true.1 h l[i] (List.getElem_mem hi)
  cases hv : l[i] with
  | int k x =>
    cases k with
    | i64 => exact ⟨x, by rw [h1, hv], by rw [hv] at h2; simpa [isNum] using h2⟩
    | _ => rw [hv] at h2; cases h2
  | _ => rw [hv] at h2; cases h2
def TwoPost (w : World) (e : Ending) (w' : World) : Prop := ∃ a b : ByteArray, e = .returned (.tuple #[.string a, .string b]) ∧ Below w.heap.size w w'
end Go.Proofs.Ytkmmlfocidfghaa

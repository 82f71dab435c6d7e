/-
  Decimal figures as plain lists, and texts made byte by byte. Nothing of a program is said.
-/
import Derived.Test.YtbncjdieilcjjaaBase
import Derived.Lib.ItoaNum
import Derived.Laws.Concat
namespace Go.Proofs.Ytbncjdieilcjjaa
open Go.RowKit

/-- The figures of k ahead of acc. -/
def digs (k : Nat) (acc : List UInt8) : List UInt8 := if h : k = 0 then acc else digs (k / 10) (UInt8.ofNat (48 + k % 10) :: acc)
termination_by k
decreasing_by omega
theorem digs_zero (acc : List UInt8) : digs 0 acc = acc := by rw [digs]; simp
theorem digs_pos {k : Nat} (h : 0 < k) (acc : List UInt8) : digs k acc = digs (k / 10) (UInt8.ofNat (48 + k % 10) :: acc) := by
  rw [digs, dif_neg (by omega)]
theorem digs_dec : ∀ (k : Nat) (acc : List UInt8), 0 < k → digs k acc = Lib.decDigits k ++ acc := by
  intro k
  induction k using Nat.strongRecOn with
  | _ k ih =>
    intro acc h
    rw [digs_pos h]
    by_cases hs : k < 10
    · rw [Lib.decDigits_one hs]
      have e1 : k / 10 = 0 := by omega
      have e2 : k % 10 = k := by omega
      rw [e1, e2, digs_zero]; rfl
    · rw [ih (k / 10) (by omega) _ (by omega)]
      have e : Lib.decDigits k = Lib.decDigits (k / 10) ++ [UInt8.ofNat (48 + k % 10)] := by
        conv => lhs; rw [Lib.decDigits]
        rw [dif_neg hs]
      rw [e]; simp
/-- The text of one byte in a new block. -/
theorem one_byte {P : Program} {src dst e : TypeId} (hs : P.underlying src = some (.slice e)) (he : P.underlying e = some (.int .u8)) (hd : P.underlying dst = some .string) (w : World) (x : Int) (d : UInt8) (hx : x = (d.toNat : Int)) :
    (convert src dst (.slice (some ⟨w.heap.size, 0, none⟩) 1 1)).run P (w.alloc (.cells #[.int .u8 x] e)) = .ok (.string ⟨#[d]⟩) (w.alloc (.cells #[.int .u8 x] e)) := by
  subst hx
  refine run_convert_bytes_back _ src dst e _ 1 [d] hs he hd fun j hj => ?_
  have : j = 0 := by simp at hj; omega
  subst this
  exact World.news_of_block (heap_alloc_new w (.cells #[.int .u8 (d.toNat : Int)] e)) 0 (.int .u8 (d.toNat : Int)) rfl
/-- One byte ahead of a text. -/
theorem add_front {P : Program} (d : UInt8) (l : List UInt8) (h : l.length ≤ 1000000000) (W : World) : (Op.stringOp .add ⟨#[d]⟩ ⟨l.toArray⟩).run P W = .ok (.string ⟨(d :: l).toArray⟩) W := by
  have e1 : (⟨#[d]⟩ : ByteArray).size = 1 := rfl
  have e2 : (⟨l.toArray⟩ : ByteArray).size = l.length := by show l.toArray.size = _; simp
  rw [run_string_add_sum W _ _ (by rw [e1, e2]; omega)]
  congr 2

end Go.Proofs.Ytbncjdieilcjjaa

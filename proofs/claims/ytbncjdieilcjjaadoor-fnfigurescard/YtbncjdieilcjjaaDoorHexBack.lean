/-
  A text comes back from its figures: plain lists.
-/
import Derived.Test.YtbncjdieilcjjaaDoorWordsHex
import Derived.Test.YtbncjdieilcjjaaDoorWordsUnhex
namespace Go.Proofs.YtbncjdieilcjjaaDoor
open Go.RowKit

theorem val_fig (n : Nat) (h : n < 16) : valI ((fig n).toNat : Int) = n := by
  rw [fig_toNat n h]
  unfold figI valI
  by_cases h10 : (n : Int) < 10
  · rw [if_pos h10, if_pos (by omega)]; omega
  · rw [if_neg h10, if_neg (by omega), if_pos (by omega)]; omega
theorem un_hex (l : List UInt8) : un (hexL l) = l ∧ okL (hexL l) = true := by
  induction l with
  | nil => exact ⟨rfl, rfl⟩
  | cons c r ih =>
    have hc := c.toNat_lt
    have e : hexL (c :: r) = fig (c.toNat / 16) :: fig (c.toNat % 16) :: hexL r := by simp [hexL]
    have v1 := val_fig (c.toNat / 16) (by omega)
    have v2 := val_fig (c.toNat % 16) (by omega)
    rw [e]
    refine ⟨?_, ?_⟩
    · simp only [un, v1, v2, ih.1]
      congr 1
      have : (16 * ((c.toNat / 16 : Nat) : Int) + ((c.toNat % 16 : Nat) : Int)).toNat = c.toNat := by omega
      rw [this]
      simp
    · simp only [okL, v1, v2, ih.2]
      simp
      omega
theorem un_back (T : ByteArray) (h : T.size ≤ 20000) : unB ⟨(hexL T.data.toList).toArray⟩ = true ∧ unS ⟨(hexL T.data.toList).toArray⟩ = T := by
  have hl := hexL_length T.data.toList
  have hs : (⟨(hexL T.data.toList).toArray⟩ : ByteArray).size = 2 * T.size := by
    show (hexL T.data.toList).toArray.size = _
    simp only [List.size_toArray, hl]
    simp
  obtain ⟨a, b⟩ := un_hex T.data.toList
  obtain ⟨e1, e2⟩ := unB_yes (s := ⟨(hexL T.data.toList).toArray⟩) (by omega) (by omega) (by simpa using b)
  refine ⟨e1, e2.trans ?_⟩
  simp [a]
end Go.Proofs.YtbncjdieilcjjaaDoor

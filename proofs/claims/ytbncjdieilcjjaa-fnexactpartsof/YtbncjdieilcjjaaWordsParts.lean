/-
  The parts of a line, as plain lists: stp (what a scan holds behind its first i bytes), finL, pB, pL.
-/
import Derived.Test.YtbncjdieilcjjaaBase
import Derived.Handy
import Derived.Lib.Hide
import Derived.Outline
namespace Go.Proofs.Ytbncjdieilcjjaa
open Go.RowKit

/-- The cells of a row of texts. -/
def strV (l : List ByteArray) : List Value := l.map Value.string
theorem strV_one (l : List ByteArray) : ∀ v ∈ strV l, v.oneCell' = true := by
  intro v hv
  obtain ⟨b, _, rfl⟩ := List.mem_map.1 hv
  rfl
theorem strV_length (l : List ByteArray) : (strV l).length = l.length := by simp [strV]

def byteAt (s : ByteArray) (i : Nat) : Int := ((s.data.toList.getD i 0).toNat : Int)
theorem byteAt_eq {s : ByteArray} {i : Nat} (h : i < s.size) : byteAt s i = (s[i].toNat : Int) := by
  have h' : i < s.data.toList.length := by simpa using h
  unfold byteAt
  rw [List.getD_eq_getElem?_getD, List.getElem?_eq_getElem h']
  rfl
def addPart (s : ByteArray) (o : List ByteArray) (b i : Nat) : List ByteArray := if b < i then o ++ [s.extract b i] else o
def stp (s : ByteArray) : Nat → List ByteArray × Nat
  | 0 => ([], 0)
  | i + 1 => if byteAt s i = 32 then (addPart s (stp s i).1 (stp s i).2 i, i + 1) else stp s i
theorem addPart_len (s : ByteArray) (o : List ByteArray) (b i : Nat) : (addPart s o b i).length ≤ o.length + 1 := by unfold addPart; split <;> simp
theorem stp_le (s : ByteArray) : ∀ i, (stp s i).2 ≤ i ∧ (stp s i).1.length ≤ i
  | 0 => by simp [stp]
  | i + 1 => by
    have := stp_le s i
    have h2 := addPart_len s (stp s i).1 (stp s i).2 i
    unfold stp
    split
    · exact ⟨Nat.le_refl _, by simp only; omega⟩
    · omega
def okTo (s : ByteArray) (i : Nat) : Prop := ∀ j, j < i → 32 ≤ byteAt s j ∧ byteAt s j ≤ 126
instance (s : ByteArray) (i : Nat) : Decidable (okTo s i) := by unfold okTo; infer_instance
def finL (s : ByteArray) : List ByteArray := addPart s (stp s s.size).1 (stp s s.size).2 s.size
def pB (s : ByteArray) : Bool := decide (s.size ≤ 600) && decide (okTo s s.size) && decide ((finL s).length ≤ 12)
def pL (s : ByteArray) : List ByteArray := if pB s then finL s else []
theorem pL_len (s : ByteArray) : (pL s).length ≤ 12 := by
  unfold pL
  split
  · rename_i h; simp [pB] at h; omega
  · simp

/-- What the scan holds at i: the bytes before it are right, and what was gathered. -/
def At (s : ByteArray) (i b : Nat) (o : List ByteArray) : Prop := okTo s i ∧ stp s i = (o, b)
theorem At.zero (s : ByteArray) : At s 0 0 [] := ⟨fun j h => by omega, rfl⟩
theorem At.bd {s : ByteArray} {i b : Nat} {o : List ByteArray} (h : At s i b o) : b ≤ i ∧ o.length ≤ i := by
  have := stp_le s i
  rw [h.2] at this
  exact this
theorem okTo_succ {s : ByteArray} {i : Nat} (h : okTo s i) (hl : i < s.size) (h1 : 32 ≤ (s[i].toNat : Int)) (h2 : (s[i].toNat : Int) ≤ 126) : okTo s (i + 1) := by
  intro j hj
  by_cases e : j = i
  · subst e; rw [byteAt_eq hl]; exact ⟨h1, h2⟩
  · exact h j (by omega)
theorem At.other {s : ByteArray} {i b : Nat} {o : List ByteArray} (h : At s i b o) (hl : i < s.size) (h1 : 32 ≤ (s[i].toNat : Int)) (h2 : (s[i].toNat : Int) ≤ 126) (h3 : (s[i].toNat : Int) ≠ 32) : At s (i + 1) b o :=
  ⟨okTo_succ h.1 hl h1 h2, by unfold stp; rw [if_neg (by rw [byteAt_eq hl]; exact h3)]; exact h.2⟩
theorem At.blank {s : ByteArray} {i b : Nat} {o : List ByteArray} (h : At s i b o) (hl : i < s.size) (h3 : (s[i].toNat : Int) = 32) : At s (i + 1) (i + 1) (addPart s o b i) :=
  ⟨okTo_succ h.1 hl (by omega) (by omega), by unfold stp; rw [if_pos (by rw [byteAt_eq hl]; exact h3), h.2]⟩
theorem addPart_yes {s : ByteArray} {o : List ByteArray} {b i : Nat} (h : b < i) : addPart s o b i = o ++ [s.extract b i] := if_pos h
theorem addPart_no {s : ByteArray} {o : List ByteArray} {b i : Nat} (h : ¬ b < i) : addPart s o b i = o := if_neg h
theorem At.fin {s : ByteArray} {b : Nat} {o : List ByteArray} (h : At s s.size b o) : finL s = addPart s o b s.size := by unfold finL; rw [h.2]

theorem p_long {s : ByteArray} (h : 600 < s.size) : pB s = false ∧ pL s = [] := by
  have : pB s = false := by
    unfold pB
    have : decide (s.size ≤ 600) = false := by simp; omega
    rw [this]; simp
  exact ⟨this, by unfold pL; rw [this]; rfl⟩
theorem p_bad {s : ByteArray} {i : Nat} (hl : i < s.size) (h : (s[i].toNat : Int) < 32 ∨ 126 < (s[i].toNat : Int)) : pB s = false ∧ pL s = [] := by
  have : pB s = false := by
    unfold pB
    have : decide (okTo s s.size) = false := by
      simp only [decide_eq_false_iff_not]
      intro hk
      have := hk i hl
      rw [byteAt_eq hl] at this
      omega
    rw [this]; simp
  exact ⟨this, by unfold pL; rw [this]; rfl⟩
theorem p_many {s : ByteArray} {o : List ByteArray} (e : finL s = o) (h : 12 < o.length) : pB s = false ∧ pL s = [] := by
  have : pB s = false := by
    unfold pB
    have : decide ((finL s).length ≤ 12) = false := by rw [e]; simp; omega
    rw [this]; simp
  exact ⟨this, by unfold pL; rw [this]; rfl⟩
theorem p_yes {s : ByteArray} {o : List ByteArray} (h0 : s.size ≤ 600) (hk : okTo s s.size) (e : finL s = o) (h : o.length ≤ 12) : pB s = true ∧ pL s = o := by
  have : pB s = true := by
    unfold pB
    rw [e]; simp [h0, hk, h]
  exact ⟨this, by unfold pL; rw [this]; exact e⟩
end Go.Proofs.Ytbncjdieilcjjaa

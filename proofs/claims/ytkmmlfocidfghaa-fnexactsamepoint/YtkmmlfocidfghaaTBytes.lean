import Derived.Test.YtkmmlfocidfghaaNArith
namespace Go.Proofs.Ytkmmlfocidfghaa
open Go.RowKit
theorem in_i (x l m : Int) (w : World) : Calls Try.prog 37 #[.int .i64 x, .int .i64 l, .int .i64 m] w fun e w' => e = .returned (.bool (decide (l ≤ x) && decide (x ≤ m))) ∧ w = w' := by
  by_cases h1 : l ≤ x
  · have d1 : decide (l ≤ x) = true := by simpa using h1
    rw [d1, Bool.true_and]
    go_enter Try.func37, Try.ntmps37
    go_wp2
    go_ret
    exact ⟨rfl, rfl⟩
  · have d1 : decide (l ≤ x) = false := by simpa using h1
    rw [d1, Bool.false_and]
    go_enter Try.func37, Try.ntmps37
    go_wp2
    go_ret
    exact ⟨rfl, rfl⟩
def txt (l : List UInt8) : ByteArray := ⟨l.toArray⟩
theorem txt_size (l : List UInt8) : (txt l).size = l.length := by show l.toArray.size = _; simp
theorem txt_list (l : List UInt8) : (txt l).data.toList = l := by simp [txt]
theorem txt_of (s : ByteArray) : txt s.data.toList = s := by simp [txt]
theorem made_bytes {w0 : World} {base g k : Nat} (h : w0.ownsRow base 5 1 (.slice (some ⟨g, 0, none⟩) k k) k (madeCells (Value.cells (.int .u8 0)) (k * 1)).toList) :
    w0.ownsRow base 5 1 (.slice (some ⟨g, 0, none⟩) k k) k (Lib.byteCells (List.replicate k 0)) := by
  have e : Lib.byteCells (List.replicate k 0) = (madeCells (Value.cells (.int .u8 0)) (k * 1)).toList := by
    have := toList_madeCells_one (.int .u8 0) (k * 1)
    simp only [Value.cells] at this ⊢
    rw [this]
    simp [Lib.byteCells]
  rw [e]; exact h
theorem fill_next {k i : Nat} (u : UInt8) (h : i < k) : (List.replicate i u ++ List.replicate (k - i) 0).set i u = List.replicate (i + 1) u ++ List.replicate (k - (i + 1)) 0 := by
  rw [List.set_append_right _ _ (by simp), List.length_replicate, Nat.sub_self, show k - i = k - (i + 1) + 1 from by omega, List.replicate_succ, List.set_cons_zero, List.replicate_succ', List.append_assoc]
  rfl
/-! l03Turned -/
theorem turn_next {s : List UInt8} {i : Nat} (h : i < s.length) : (s.reverse.take i ++ List.replicate (s.length - i) 0).set i (s[s.length - 1 - i]'(by omega)) = s.reverse.take (i + 1) ++ List.replicate (s.length - (i + 1)) 0 := by
  have hl : (s.reverse.take i).length = i := by rw [List.length_take, List.length_reverse]; omega
  rw [List.set_append_right _ _ (by omega), hl, Nat.sub_self, show s.length - i = s.length - (i + 1) + 1 from by omega, List.replicate_succ, List.set_cons_zero, List.take_succ_eq_append_getElem (by rw [List.length_reverse]; exact h), List.append_assoc, List.getElem_reverse]
  rfl
/-! FirstBytes, LastBytes -/
def wideB (s : ByteArray) (width : Int) : Bool := okG s && decide ((s.size : Int) ≤ width) && decide (width ≤ 160)
def firstG (s : ByteArray) (width : Int) : ByteArray := if wideB s width then txt (List.replicate (width.toNat - s.size) 0 ++ s.data.toList) else ⟨#[]⟩
def lastG (s : ByteArray) (width : Int) : ByteArray := txt (firstG s width).data.toList.reverse
theorem firstG_size (s : ByteArray) (width : Int) : (firstG s width).size ≤ 160 := by
  unfold firstG
  split
  · rename_i h
    simp only [wideB, Bool.and_eq_true, decide_eq_true_eq] at h
    rw [txt_size, List.length_append, List.length_replicate, Array.length_toList]
    have : s.data.size = s.size := rfl
    omega
  · decide
theorem txt_append (a b : List UInt8) : txt a ++ txt b = txt (a ++ b) := by
  apply ByteArray.ext
  simp [txt]
/-! FromFirst, FromLast -/
def fromG (b : ByteArray) : ByteArray := if b.size ≤ 160 then gS (gV b) else ⟨#[]⟩
theorem extract_txt (b : ByteArray) (m : Nat) : b.extract m b.size = txt (b.data.toList.drop m) := by
  apply ByteArray.ext
  rw [ByteArray.data_extract]
  apply Array.ext'
  rw [Array.toList_extract]
  simp only [txt]
  rw [List.extract_eq_take_drop, List.take_of_length_le (by rw [List.length_drop, Array.length_toList]; exact Nat.le_refl _)]
def fromL (b : ByteArray) : ByteArray := fromG (txt b.data.toList.reverse)
end Go.Proofs.Ytkmmlfocidfghaa

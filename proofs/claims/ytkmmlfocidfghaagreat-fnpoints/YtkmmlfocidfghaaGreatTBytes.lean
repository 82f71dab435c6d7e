import Derived.Test.YtkmmlfocidfghaaGreatNArith
namespace Go.Proofs.YtkmmlfocidfghaaGreat
open Go.RowKit
theorem in_i (x l m : Int) (w : World) : Calls Tryz.prog 46 #[.int .i64 x, .int .i64 l, .int .i64 m] w fun e w' => e = .returned (.bool (decide (l ≤ x) && decide (x ≤ m))) ∧ w = w' := by
  by_cases h1 : l ≤ x
  · have d1 : decide (l ≤ x) = true := by simpa using h1
    rw [d1, Bool.true_and]
    go_enter Tryz.func46, Tryz.ntmps46
    go_wp2
    go_ret
    exact ⟨rfl, rfl⟩
  · have d1 : decide (l ≤ x) = false := by simpa using h1
    rw [d1, Bool.false_and]
    go_enter Tryz.func46, Tryz.ntmps46
    go_wp2
    go_ret
    exact ⟨rfl, rfl⟩
def txt (l : List UInt8) : ByteArray := ⟨l.toArray⟩
/-! FromFirst, FromLast -/
def fromG (b : ByteArray) : ByteArray := if b.size ≤ 160 then gS (gV b) else ⟨#[]⟩
theorem extract_txt (b : ByteArray) (m : Nat) : b.extract m b.size = txt (b.data.toList.drop m) := by
  apply ByteArray.ext
  rw [ByteArray.data_extract]
  apply Array.ext'
  rw [Array.toList_extract]
  simp only [txt]
  rw [List.extract_eq_take_drop, List.take_of_length_le (by rw [List.length_drop, Array.length_toList]; exact Nat.le_refl _)]
set_option maxRecDepth 8000 in
set_option maxHeartbeats 1000000 in
theorem fromFirst_any (b : ByteArray) (w : World) : Calls Tryz.prog 70 #[.string b] w fun e w' => e = .returned (.string (fromG b)) ∧ w = w' := by
  unfold fromG
  by_cases hl : 160 < b.size
  · rw [if_neg (by omega)]
    have hl' : (160 : Int) < (b.size : Int) := by omega
    go_enter Tryz.func70, Tryz.ntmps70
    go_wp2
    go_ret
    exact ⟨rfl, rfl⟩
  · rw [if_pos (by omega)]
    have hl' : ¬ (160 : Int) < (b.size : Int) := by omega
    have hbl : b.data.toList.length = b.size := by simp
    have HBL := Lib.hid hbl
    clear hbl
    go_enter Tryz.func70, Tryz.ntmps70
    go_wp2
    go_loop [3] (fun mv => ∃ m : Nat, m ≤ b.size ∧ mv = .int .i64 m ∧ Hid (Lead b.data.toList m)) (fun mv => b.size - (intOf mv).toNat)
    case atStart => exact ⟨0, Nat.zero_le _, rfl, Lead.zero _⟩
    case round =>
      obtain ⟨m, hm, rfl, hLd⟩ := hrel
      by_cases hml : m < b.size
      · have hml' : (m : Int) < (b.size : Int) := by omega
        have hmb : m < b.data.toList.length := by rw [HBL.out]; exact hml
        have eb : b.data.toList[m] = b[m] := rfl
        by_cases hz : b[m] = 0
        · have hz' : ((b[m].toNat : Int) == 0) = true := by rw [hz]; rfl
          have hN := Lib.hid (hLd.out.next hmb (by rw [eb]; exact hz))
          clear hz
          go_wp2
          go_round
          case rel => exact ⟨m + 1, by omega, by go_num, hN⟩
          case measure => simp [intOf]; omega
        · have hz' : ((b[m].toNat : Int) == 0) = false := by
            have : b[m].toNat ≠ 0 := fun e => hz (by rw [← UInt8.toNat_inj]; simpa using e)
            simpa using this
          have hT := hLd.out.text rfl (.inr ⟨hmb, by rw [eb]; exact hz⟩)
          have HT := Lib.hid hT
          clear hz hT
          go_wp2
          go_ret
          exact ⟨congrArg (fun x => Ending.returned (Value.string x)) (by rw [extract_txt, HT.out]; rfl), rfl⟩
      · obtain rfl : m = b.size := by omega
        have hml' : ¬ (b.size : Int) < (b.size : Int) := by omega
        have hT := hLd.out.text rfl (.inl HBL.out.symm)
        have HT := Lib.hid hT
        clear hT
        go_wp2
        go_ret
        exact ⟨congrArg (fun x => Ending.returned (Value.string x)) (by first | (rw [extract_txt, HT.out]; rfl) | (rw [List.drop_of_length_le (by rw [HBL.out]; exact Nat.le_refl _)] at HT; unfold gS gV; rw [← HT.out]; rfl)), rfl⟩
end Go.Proofs.YtkmmlfocidfghaaGreat

/-
  The contracts of spec.l01In, l01Long (its bytes), FirstBytes, l03Turned, LastBytes, FromFirst, FromLast.
-/
import Derived.Test.YtflfeepgkcamnaaGreatNArith
namespace Go.Proofs.YtflfeepgkcamnaaGreat
open Go.RowKit

theorem in_i (x l m : Int) (w : World) : Calls Tryz.prog 85 #[.int .i64 x, .int .i64 l, .int .i64 m] w fun e w' => e = .returned (.bool (decide (l ≤ x) && decide (x ≤ m))) ∧ w = w' := by
  by_cases h1 : l ≤ x
  · have d1 : decide (l ≤ x) = true := by simpa using h1
    rw [d1, Bool.true_and]
    go_enter Tryz.func85, Tryz.ntmps85
    go_wp2
    go_ret
    exact ⟨rfl, rfl⟩
  · have d1 : decide (l ≤ x) = false := by simpa using h1
    rw [d1, Bool.false_and]
    go_enter Tryz.func85, Tryz.ntmps85
    go_wp2
    go_ret
    exact ⟨rfl, rfl⟩
def txt (l : List UInt8) : ByteArray := ⟨l.toArray⟩
theorem txt_size (l : List UInt8) : (txt l).size = l.length := by show l.toArray.size = _; simp
theorem txt_list (l : List UInt8) : (txt l).data.toList = l := by simp [txt]
theorem txt_of (s : ByteArray) : txt s.data.toList = s := by simp [txt]
theorem made_bytes {w0 : World} {base g k : Nat} (h : w0.ownsRow base 5 1 (.slice (some ⟨g, 0, none⟩) k k) k (madeCells (Value.cells (.int .u8 0)) (k * 1)).toList) :
    w0.ownsRow base 5 1 (.slice (some ⟨g, 0, none⟩) k k) k (Lib.byteCells (List.replicate k 0)) := by
  have e : Lib.byteCells (List.replicate k 0) = (madeCells (Value.cells (.int .u8 0)) (k * 1)).toList := by
    have := toList_madeCells_one (.int .u8 0) (k * 1)
    simp only [Value.cells] at this ⊢
    rw [this]
    simp [Lib.byteCells]
  rw [e]; exact h
theorem fill_next {k i : Nat} (u : UInt8) (h : i < k) : (List.replicate i u ++ List.replicate (k - i) 0).set i u = List.replicate (i + 1) u ++ List.replicate (k - (i + 1)) 0 := by
  rw [List.set_append_right _ _ (by simp), List.length_replicate, Nat.sub_self, show k - i = k - (i + 1) + 1 from by omega, List.replicate_succ, List.set_cons_zero, List.replicate_succ', List.append_assoc]
  rfl
set_option maxRecDepth 8000 in
set_option maxHeartbeats 1000000 in
theorem long_any (k : Nat) (u : UInt8) (x : Int) (hx : x = (u.toNat : Int)) (hk : k ≤ 100000) (w : World) : Calls Tryz.prog 65 #[.int .i64 (k : Int), .int .u8 x] w fun e w' => e = .returned (.string (txt (List.replicate k u))) ∧ Below w.heap.size w w' := by
  obtain ⟨i0, hi, hz0, hz1, hz2⟩ := info_parts Tryz.infoB
  subst hx
  go_enter Tryz.func65, Tryz.ntmps65
  go_wp2_with (at_make; refine wpList_make_full _ rfl _ _ 22 rfl w.heap.size 5 i0 (.int .u8 0) 1 Tryz.underlying22 hi hz0 hz1 .i64 .i64 _ _ k rfl rfl (by first | rfl | omega) (by first | rfl | omega) (by rw [hz2]; omega) (by unfold maxLen; omega) (Nat.le_refl _) ?_; intro w0 hown0 hgrow0)
  have hb0 : Below w.heap.size w w0 := (Below.refl _ _).grown hgrow0 (Nat.le_refl _) (fun k hk => by cases hk)
  have hR0 := Lib.hid (made_bytes hown0)
  clear hown0 hgrow0
  go_loopw [6] (fun iv wr => ∃ (i : Nat), i ≤ k ∧ iv = .int .i64 i ∧ Hid (wr.ownsRow w.heap.size 5 1 (.slice (some ⟨w.heap.size, 0, none⟩) k k) k (Lib.byteCells (List.replicate i u ++ List.replicate (k - i) 0))) ∧ Below w.heap.size w wr) (fun iv _ => k - (intOf iv).toNat)
  case atStart => exact ⟨0, Nat.zero_le _, rfl, by simpa using hR0, hb0⟩
  case round =>
    clear hR0 hb0
    obtain ⟨i, hik, rfl, hO, hb⟩ := hrel
    have hbs := hb.size
    by_cases hlt : i < k
    · have hlt' : (i : Int) < (k : Int) := by omega
      obtain ⟨v, hcv⟩ : ∃ v, wr.cell? ⟨w.heap.size, i, none⟩ = some v := ⟨_, (hO.out.cellAt i (by omega)).trans (List.getElem?_eq_getElem (by rw [hO.out.1]; omega))⟩
      have hfv := hO.out.frozenAt i
      have S1 := (hO.out.stored i (.int .u8 (u.toNat : Int))).1
      rw [byteCells_set, fill_next u hlt] at S1
      have HS := Lib.hid S1
      clear hO S1
      go_wp2
      go_roundw
      case rel => exact ⟨i + 1, by omega, by go_num, HS, hb.setCell (p := ⟨w.heap.size, i, none⟩) (Nat.le_refl _) _⟩
      case measure => simp [intOf]; omega
    · obtain rfl : i = k := by omega
      have hlt' : ¬ (i : Int) < (i : Int) := by omega
      have hO2 := hO.out
      rw [Nat.sub_self, List.replicate_zero, List.append_nil] at hO2
      have hcv := conv_own (P := Tryz.prog) (src := 22) (dst := 9) (e := 5) Tryz.underlying22 Tryz.underlying5 Tryz.underlying9 hO2
      clear hO hO2
      go_wp2
      go_ret
      exact ⟨rfl, hb⟩

/-! l03Turned -/
theorem turn_next {s : List UInt8} {i : Nat} (h : i < s.length) : (s.reverse.take i ++ List.replicate (s.length - i) 0).set i (s[s.length - 1 - i]'(by omega)) = s.reverse.take (i + 1) ++ List.replicate (s.length - (i + 1)) 0 := by
  have hl : (s.reverse.take i).length = i := by rw [List.length_take, List.length_reverse]; omega
  rw [List.set_append_right _ _ (by omega), hl, Nat.sub_self, show s.length - i = s.length - (i + 1) + 1 from by omega, List.replicate_succ, List.set_cons_zero, List.take_succ_eq_append_getElem (by rw [List.length_reverse]; exact h), List.append_assoc, List.getElem_reverse]
  rfl
/-! FirstBytes, LastBytes -/
def wideB (s : ByteArray) (width : Int) : Bool := okG s && decide ((s.size : Int) ≤ width) && decide (width ≤ 160)
def firstG (s : ByteArray) (width : Int) : ByteArray := if wideB s width then txt (List.replicate (width.toNat - s.size) 0 ++ s.data.toList) else ⟨#[]⟩
def lastG (s : ByteArray) (width : Int) : ByteArray := txt (firstG s width).data.toList.reverse
theorem firstG_size (s : ByteArray) (width : Int) : (firstG s width).size ≤ 160 := by
  unfold firstG
  split
  · rename_i h
    simp only [wideB, Bool.and_eq_true, decide_eq_true_eq] at h
    rw [txt_size, List.length_append, List.length_replicate, Array.length_toList]
    have : s.data.size = s.size := rfl
    omega
  · decide
theorem txt_append (a b : List UInt8) : txt a ++ txt b = txt (a ++ b) := by
  apply ByteArray.ext
  simp [txt]
/-! FromFirst, FromLast -/
def fromG (b : ByteArray) : ByteArray := if b.size ≤ 160 then gS (gV b) else ⟨#[]⟩
theorem extract_txt (b : ByteArray) (m : Nat) : b.extract m b.size = txt (b.data.toList.drop m) := by
  apply ByteArray.ext
  rw [ByteArray.data_extract]
  apply Array.ext'
  rw [Array.toList_extract]
  simp only [txt]
  rw [List.extract_eq_take_drop, List.take_of_length_le (by rw [List.length_drop, Array.length_toList]; exact Nat.le_refl _)]
def fromL (b : ByteArray) : ByteArray := fromG (txt b.data.toList.reverse)
set_option maxRecDepth 8000 in
set_option maxHeartbeats 1000000 in
theorem fromFirst_any (b : ByteArray) (w : World) : Calls Tryz.prog 88 #[.string b] w fun e w' => e = .returned (.string (fromG b)) ∧ w = w' := by
  unfold fromG
  by_cases hl : 160 < b.size
  · rw [if_neg (by omega)]
    have hl' : (160 : Int) < (b.size : Int) := by omega
    go_enter Tryz.func88, Tryz.ntmps88
    go_wp2
    go_ret
    exact ⟨rfl, rfl⟩
  · rw [if_pos (by omega)]
    have hl' : ¬ (160 : Int) < (b.size : Int) := by omega
    have hbl : b.data.toList.length = b.size := by simp
    have HBL := Lib.hid hbl
    clear hbl
    go_enter Tryz.func88, Tryz.ntmps88
    go_wp2
    go_loop [3] (fun mv => ∃ m : Nat, m ≤ b.size ∧ mv = .int .i64 m ∧ Hid (Lead b.data.toList m)) (fun mv => b.size - (intOf mv).toNat)
    case atStart => exact ⟨0, Nat.zero_le _, rfl, Lead.zero _⟩
    case round =>
      obtain ⟨m, hm, rfl, hLd⟩ := hrel
      by_cases hml : m < b.size
      · have hml' : (m : Int) < (b.size : Int) := by omega
        have hmb : m < b.data.toList.length := by rw [HBL.out]; exact hml
        have eb : b.data.toList[m] = b[m] := rfl
        by_cases hz : b[m] = 0
        · have hz' : ((b[m].toNat : Int) == 0) = true := by rw [hz]; rfl
          have hN := Lib.hid (hLd.out.next hmb (by rw [eb]; exact hz))
          clear hz
          go_wp2
          go_round
          case rel => exact ⟨m + 1, by omega, by go_num, hN⟩
          case measure => simp [intOf]; omega
        · have hz' : ((b[m].toNat : Int) == 0) = false := by
            have : b[m].toNat ≠ 0 := fun e => hz (by rw [← UInt8.toNat_inj]; simpa using e)
            simpa using this
          have hT := hLd.out.text rfl (.inr ⟨hmb, by rw [eb]; exact hz⟩)
          have HT := Lib.hid hT
          clear hz hT
          go_wp2
          go_ret
          exact ⟨congrArg (fun x => Ending.returned (Value.string x)) (by rw [extract_txt, HT.out]; rfl), rfl⟩
      · obtain rfl : m = b.size := by omega
        have hml' : ¬ (b.size : Int) < (b.size : Int) := by omega
        have hT := hLd.out.text rfl (.inl HBL.out.symm)
        have HT := Lib.hid hT
        clear hT
        go_wp2
        go_ret
        exact ⟨congrArg (fun x => Ending.returned (Value.string x)) (by first | (rw [extract_txt, HT.out]; rfl) | (rw [List.drop_of_length_le (by rw [HBL.out]; exact Nat.le_refl _)] at HT; unfold gS gV; rw [← HT.out]; rfl)), rfl⟩
end Go.Proofs.YtflfeepgkcamnaaGreat

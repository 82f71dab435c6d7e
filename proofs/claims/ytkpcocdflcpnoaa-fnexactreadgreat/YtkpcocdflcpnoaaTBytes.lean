/-
  The contracts of spec.l01In, l01Long (its bytes), FirstBytes, l03Turned, LastBytes, FromFirst, FromLast.
-/
import Derived.Test.YtkpcocdflcpnoaaNInt
namespace Go.Proofs.Ytkpcocdflcpnoaa
open Go.RowKit

theorem in_i (x l m : Int) (w : World) : Calls Try.prog 43 #[.int .i64 x, .int .i64 l, .int .i64 m] w fun e w' => e = .returned (.bool (decide (l ≤ x) && decide (x ≤ m))) ∧ w = w' := by
  by_cases h1 : l ≤ x
  · have d1 : decide (l ≤ x) = true := by simpa using h1
    rw [d1, Bool.true_and]
    go_enter Try.func43, Try.ntmps43
    go_wp2
    go_ret
    exact ⟨rfl, rfl⟩
  · have d1 : decide (l ≤ x) = false := by simpa using h1
    rw [d1, Bool.false_and]
    go_enter Try.func43, Try.ntmps43
    go_wp2
    go_ret
    exact ⟨rfl, rfl⟩
def txt (l : List UInt8) : ByteArray := ⟨l.toArray⟩
theorem txt_size (l : List UInt8) : (txt l).size = l.length := by show l.toArray.size = _; simp
theorem txt_list (l : List UInt8) : (txt l).data.toList = l := by simp [txt]
theorem txt_of (s : ByteArray) : txt s.data.toList = s := by simp [txt]
theorem made_bytes {w0 : World} {base g k : Nat} (h : w0.ownsRow base 5 1 (.slice (some ⟨g, 0, none⟩) k k) k (madeCells (Value.cells (.int .u8 0)) (k * 1)).toList) :
    w0.ownsRow base 5 1 (.slice (some ⟨g, 0, none⟩) k k) k (Lib.byteCells (List.replicate k 0)) := by
  have e : Lib.byteCells (List.replicate k 0) = (madeCells (Value.cells (.int .u8 0)) (k * 1)).toList := by
    have := toList_madeCells_one (.int .u8 0) (k * 1)
    simp only [Value.cells] at this ⊢
    rw [this]
    simp [Lib.byteCells]
  rw [e]; exact h
theorem fill_next {k i : Nat} (u : UInt8) (h : i < k) : (List.replicate i u ++ List.replicate (k - i) 0).set i u = List.replicate (i + 1) u ++ List.replicate (k - (i + 1)) 0 := by
  rw [List.set_append_right _ _ (by simp), List.length_replicate, Nat.sub_self, show k - i = k - (i + 1) + 1 from by omega, List.replicate_succ, List.set_cons_zero, List.replicate_succ', List.append_assoc]
  rfl
set_option maxHeartbeats 1000000 in
theorem long_any (k : Nat) (u : UInt8) (x : Int) (hx : x = (u.toNat : Int)) (hk : k ≤ 100000) (w : World) : Calls Try.prog 41 #[.int .i64 (k : Int), .int .u8 x] w fun e w' => e = .returned (.string (txt (List.replicate k u))) ∧ Below w.heap.size w w' := by
  obtain ⟨i0, hi, hz0, hz1, hz2⟩ := info_parts Try.infoB
  subst hx
  go_enter Try.func41, Try.ntmps41
  go_wp2_with (at_make; refine wpList_make_full _ rfl _ _ 22 rfl w.heap.size 5 i0 (.int .u8 0) 1 Try.underlying22 hi hz0 hz1 .i64 .i64 _ _ k rfl rfl (by first | rfl | omega) (by first | rfl | omega) (by rw [hz2]; omega) (by unfold maxLen; omega) (Nat.le_refl _) ?_; intro w0 hown0 hgrow0)
  have hb0 : Below w.heap.size w w0 := (Below.refl _ _).grown hgrow0 (Nat.le_refl _) (fun k hk => by cases hk)
  have hR0 := Lib.hid (made_bytes hown0)
  clear hown0 hgrow0
  go_loopw [6] (fun iv wr => ∃ (i : Nat), i ≤ k ∧ iv = .int .i64 i ∧ Hid (wr.ownsRow w.heap.size 5 1 (.slice (some ⟨w.heap.size, 0, none⟩) k k) k (Lib.byteCells (List.replicate i u ++ List.replicate (k - i) 0))) ∧ Below w.heap.size w wr) (fun iv _ => k - (intOf iv).toNat)
  case atStart => exact ⟨0, Nat.zero_le _, rfl, by simpa using hR0, hb0⟩
  case round =>
    clear hR0 hb0
    obtain ⟨i, hik, rfl, hO, hb⟩ := hrel
    have hbs := hb.size
    by_cases hlt : i < k
    · have hlt' : (i : Int) < (k : Int) := by omega
      obtain ⟨v, hcv⟩ : ∃ v, wr.cell? ⟨w.heap.size, i, none⟩ = some v := ⟨_, (hO.out.cellAt i (by omega)).trans (List.getElem?_eq_getElem (by rw [hO.out.1]; omega))⟩
      have hfv := hO.out.frozenAt i
      have S1 := (hO.out.stored i (.int .u8 (u.toNat : Int))).1
      rw [byteCells_set, fill_next u hlt] at S1
      have HS := Lib.hid S1
      clear hO S1
      go_wp2
      go_roundw
      case rel => exact ⟨i + 1, by omega, by go_num, HS, hb.setCell (p := ⟨w.heap.size, i, none⟩) (Nat.le_refl _) _⟩
      case measure => simp [intOf]; omega
    · obtain rfl : i = k := by omega
      have hlt' : ¬ (i : Int) < (i : Int) := by omega
      have hO2 := hO.out
      rw [Nat.sub_self, List.replicate_zero, List.append_nil] at hO2
      have hcv := conv_own (P := Try.prog) (src := 22) (dst := 9) (e := 5) Try.underlying22 Try.underlying5 Try.underlying9 hO2
      clear hO hO2
      go_wp2
      go_ret
      exact ⟨rfl, hb⟩

/-! l03Turned -/
theorem turn_next {s : List UInt8} {i : Nat} (h : i < s.length) : (s.reverse.take i ++ List.replicate (s.length - i) 0).set i (s[s.length - 1 - i]'(by omega)) = s.reverse.take (i + 1) ++ List.replicate (s.length - (i + 1)) 0 := by
  have hl : (s.reverse.take i).length = i := by rw [List.length_take, List.length_reverse]; omega
  rw [List.set_append_right _ _ (by omega), hl, Nat.sub_self, show s.length - i = s.length - (i + 1) + 1 from by omega, List.replicate_succ, List.set_cons_zero, List.take_succ_eq_append_getElem (by rw [List.length_reverse]; exact h), List.append_assoc, List.getElem_reverse]
  rfl
set_option maxHeartbeats 1000000 in
theorem turned_any (s : ByteArray) (w : World) (hs : s.size ≤ 2000000) : Calls Try.prog 55 #[.string s] w fun e w' => e = .returned (.string (txt s.data.toList.reverse)) ∧ Below w.heap.size w w' := by
  obtain ⟨i0, hi, hz0, hz1, hz2⟩ := info_parts Try.infoB
  have hsl : s.data.toList.length = s.size := by simp
  go_enter Try.func55, Try.ntmps55
  go_wp2_with (at_make; refine wpList_make_full _ rfl _ _ 22 rfl w.heap.size 5 i0 (.int .u8 0) 1 Try.underlying22 hi hz0 hz1 .i64 .i64 _ _ s.size rfl rfl (by first | rfl | omega) (by first | rfl | omega) (by rw [hz2]; omega) (by unfold maxLen; omega) (Nat.le_refl _) ?_; intro w0 hown0 hgrow0)
  have hb0 : Below w.heap.size w w0 := (Below.refl _ _).grown hgrow0 (Nat.le_refl _) (fun k hk => by cases hk)
  have hR0 := Lib.hid (made_bytes hown0)
  have HSL := Lib.hid hsl
  clear hown0 hgrow0 hsl
  go_loopw [4] (fun iv wr => ∃ (i : Nat), i ≤ s.size ∧ iv = .int .i64 i ∧ Hid (wr.ownsRow w.heap.size 5 1 (.slice (some ⟨w.heap.size, 0, none⟩) s.size s.size) s.size (Lib.byteCells (s.data.toList.reverse.take i ++ List.replicate (s.size - i) 0))) ∧ Below w.heap.size w wr) (fun iv _ => s.size - (intOf iv).toNat)
  case atStart => exact ⟨0, Nat.zero_le _, rfl, by simpa using hR0, hb0⟩
  case round =>
    clear hR0 hb0
    obtain ⟨i, hik, rfl, hO, hb⟩ := hrel
    have hbs := hb.size
    by_cases hlt : i < s.size
    · have hlt' : (i : Int) < (s.size : Int) := by omega
      obtain ⟨v, hcv⟩ : ∃ v, wr.cell? ⟨w.heap.size, i, none⟩ = some v := ⟨_, (hO.out.cellAt i (by omega)).trans (List.getElem?_eq_getElem (by rw [hO.out.1]; omega))⟩
      have hfv := hO.out.frozenAt i
      obtain ⟨j, hj⟩ : ∃ j, s.size - 1 - i = j := ⟨_, rfl⟩
      have hjs : j < s.size := by omega
      have hji : (s.size : Int) - 1 - (i : Int) = (j : Int) := by omega
      have S1 := (hO.out.stored i (.int .u8 (s[j].toNat : Int))).1
      have tn := turn_next (s := s.data.toList) (i := i) (by rw [HSL.out]; exact hlt)
      have ej : s.data.toList[s.data.toList.length - 1 - i]'(by rw [HSL.out]; omega) = s[j] := by
        have : s.data.toList.length - 1 - i = j := by rw [HSL.out]; exact hj
        simp only [this]; rfl
      rw [ej] at tn
      simp only [HSL.out] at tn
      rw [byteCells_set, tn] at S1
      have HS := Lib.hid S1
      have hj2 : (j : Int) < (s.size : Int) := by omega
      clear hO S1 tn ej hj
      go_wp2
      go_roundw
      case rel => exact ⟨i + 1, by omega, by go_num, HS, hb.setCell (p := ⟨w.heap.size, i, none⟩) (Nat.le_refl _) _⟩
      case measure => simp [intOf]; omega
    · obtain rfl : i = s.size := by omega
      have hlt' : ¬ (s.size : Int) < (s.size : Int) := by omega
      have hO2 := hO.out
      rw [Nat.sub_self, List.replicate_zero, List.append_nil, List.take_of_length_le (by rw [List.length_reverse, HSL.out]; exact Nat.le_refl _)] at hO2
      have hcv := conv_own (P := Try.prog) (src := 22) (dst := 9) (e := 5) Try.underlying22 Try.underlying5 Try.underlying9 hO2
      clear hO hO2
      go_wp2
      go_ret
      exact ⟨rfl, hb⟩

/-! FirstBytes, LastBytes -/
def wideB (s : ByteArray) (width : Int) : Bool := okG s && decide ((s.size : Int) ≤ width) && decide (width ≤ 160)
def firstG (s : ByteArray) (width : Int) : ByteArray := if wideB s width then txt (List.replicate (width.toNat - s.size) 0 ++ s.data.toList) else ⟨#[]⟩
def lastG (s : ByteArray) (width : Int) : ByteArray := txt (firstG s width).data.toList.reverse
theorem firstG_size (s : ByteArray) (width : Int) : (firstG s width).size ≤ 160 := by
  unfold firstG
  split
  · rename_i h
    simp only [wideB, Bool.and_eq_true, decide_eq_true_eq] at h
    rw [txt_size, List.length_append, List.length_replicate, Array.length_toList]
    have : s.data.size = s.size := rfl
    omega
  · decide
theorem txt_append (a b : List UInt8) : txt a ++ txt b = txt (a ++ b) := by
  apply ByteArray.ext
  simp [txt]
set_option maxHeartbeats 1000000 in
theorem firstBytes_any (s : ByteArray) (x : Int) (w : World) : Calls Try.prog 22 #[.string s, .int .i64 x] w fun e w' => e = .returned (.string (firstG s x)) ∧ Below w.heap.size w w' := by
  have HG := greatOk_any s
  cases ok : okG s with
  | false =>
    have E : firstG s x = ⟨#[]⟩ := by unfold firstG wideB; rw [ok]; rfl
    rw [E]
    rw [ok] at HG
    clear E
    go_enter Try.func22, Try.ntmps22
    go_wp2_with fail
    refine (HG _).mono ?_
    rintro e w1 ⟨rfl, rfl⟩
    go_wp2
    go_ret
    exact ⟨rfl, Below.refl _ _⟩
  | true =>
    rw [ok] at HG
    have hs := okG_size ok
    have HI := in_i x (s.size : Int) 160
    cases hw : (decide ((s.size : Int) ≤ x) && decide (x ≤ 160)) with
    | false =>
      have E : firstG s x = ⟨#[]⟩ := by unfold firstG wideB; rw [ok, Bool.true_and, hw]; rfl
      rw [E]
      rw [hw] at HI
      clear E
      go_enter Try.func22, Try.ntmps22
      go_wp2_with fail
      refine (HG _).mono ?_
      rintro e w1 ⟨rfl, rfl⟩
      go_wp2_with fail
      refine (HI _).mono ?_
      rintro e w1 ⟨rfl, rfl⟩
      go_wp2
      go_ret
      exact ⟨rfl, Below.refl _ _⟩
    | true =>
      have E : firstG s x = txt (List.replicate (x.toNat - s.size) 0 ++ s.data.toList) := by unfold firstG wideB; rw [ok, Bool.true_and, hw]; rfl
      rw [E]
      rw [hw] at HI
      simp only [Bool.and_eq_true, decide_eq_true_eq] at hw
      obtain ⟨k, hk⟩ : ∃ k, x.toNat - s.size = k := ⟨_, rfl⟩
      have hk2 : x - (s.size : Int) = (k : Int) := by omega
      rw [hk]
      have hT : txt (List.replicate k 0) ++ s = txt (List.replicate k 0 ++ s.data.toList) := by
        conv => lhs; rw [← txt_of s]
        exact txt_append _ _
      have hsz : (txt (List.replicate k 0)).size + s.size ≤ maxLen := by rw [txt_size, List.length_replicate]; unfold maxLen; omega
      rw [← hT]
      have hadd := fun W => run_string_add_sum (P := Try.prog) W (txt (List.replicate k 0)) s (by rw [txt_size, List.length_replicate]; omega)
      have HL := Lib.hid (fun w => long_any k 0 0 rfl (by omega) w)
      have hx1 := hw.1
      have hx2 := hw.2
      clear E hw hT hk
      generalize txt (List.replicate k 0) = T at *
      go_enter Try.func22, Try.ntmps22
      go_wp2_with fail
      refine (HG _).mono ?_
      rintro e w1 ⟨rfl, rfl⟩
      go_wp2_with fail
      refine (HI _).mono ?_
      rintro e w1 ⟨rfl, rfl⟩
      go_wp2_with fail
      refine (HL.out _).mono ?_
      rintro e w1 ⟨rfl, b1⟩
      clear HG HI HL
      go_wp2
      go_ret
      exact ⟨rfl, b1⟩
theorem lastBytes_any (s : ByteArray) (x : Int) (w : World) : Calls Try.prog 25 #[.string s, .int .i64 x] w fun e w' => e = .returned (.string (lastG s x)) ∧ Below w.heap.size w w' := by
  have hsz := firstG_size s x
  unfold lastG
  go_enter Try.func25, Try.ntmps25
  go_wp2_with fail
  refine (firstBytes_any s x _).mono ?_
  rintro e w1 ⟨rfl, b1⟩
  go_wp2_with fail
  refine (turned_any _ _ (by omega)).mono ?_
  rintro e w2 ⟨rfl, b2⟩
  have b3 := bt b1 b2
  clear b1 b2
  go_wp2
  go_ret
  exact ⟨rfl, b3⟩

/-! FromFirst, FromLast -/
def fromG (b : ByteArray) : ByteArray := if b.size ≤ 160 then gS (gV b) else ⟨#[]⟩
theorem extract_txt (b : ByteArray) (m : Nat) : b.extract m b.size = txt (b.data.toList.drop m) := by
  apply ByteArray.ext
  rw [ByteArray.data_extract]
  apply Array.ext'
  rw [Array.toList_extract]
  simp only [txt]
  rw [List.extract_eq_take_drop, List.take_of_length_le (by rw [List.length_drop, Array.length_toList]; exact Nat.le_refl _)]
def fromL (b : ByteArray) : ByteArray := fromG (txt b.data.toList.reverse)
set_option maxHeartbeats 1000000 in
theorem fromFirst_any (b : ByteArray) (w : World) : Calls Try.prog 26 #[.string b] w fun e w' => e = .returned (.string (fromG b)) ∧ w = w' := by
  unfold fromG
  by_cases hl : 160 < b.size
  · rw [if_neg (by omega)]
    have hl' : (160 : Int) < (b.size : Int) := by omega
    go_enter Try.func26, Try.ntmps26
    go_wp2
    go_ret
    exact ⟨rfl, rfl⟩
  · rw [if_pos (by omega)]
    have hl' : ¬ (160 : Int) < (b.size : Int) := by omega
    have hbl : b.data.toList.length = b.size := by simp
    have HBL := Lib.hid hbl
    clear hbl
    go_enter Try.func26, Try.ntmps26
    go_wp2
    go_loop [3] (fun mv => ∃ m : Nat, m ≤ b.size ∧ mv = .int .i64 m ∧ Hid (Lead b.data.toList m)) (fun mv => b.size - (intOf mv).toNat)
    case atStart => exact ⟨0, Nat.zero_le _, rfl, Lead.zero _⟩
    case round =>
      obtain ⟨m, hm, rfl, hLd⟩ := hrel
      by_cases hml : m < b.size
      · have hml' : (m : Int) < (b.size : Int) := by omega
        have hmb : m < b.data.toList.length := by rw [HBL.out]; exact hml
        have eb : b.data.toList[m] = b[m] := rfl
        by_cases hz : b[m] = 0
        · have hz' : ((b[m].toNat : Int) == 0) = true := by rw [hz]; rfl
          have hN := Lib.hid (hLd.out.next hmb (by rw [eb]; exact hz))
          clear hz
          go_wp2
          go_round
          case rel => exact ⟨m + 1, by omega, by go_num, hN⟩
          case measure => simp [intOf]; omega
        · have hz' : ((b[m].toNat : Int) == 0) = false := by
            have : b[m].toNat ≠ 0 := fun e => hz (by rw [← UInt8.toNat_inj]; simpa using e)
            simpa using this
          have hT := hLd.out.text rfl (.inr ⟨hmb, by rw [eb]; exact hz⟩)
          have HT := Lib.hid hT
          clear hz hT
          go_wp2
          go_ret
          exact ⟨congrArg (fun x => Ending.returned (Value.string x)) (by rw [extract_txt, HT.out]; rfl), rfl⟩
      · obtain rfl : m = b.size := by omega
        have hml' : ¬ (b.size : Int) < (b.size : Int) := by omega
        have hT := hLd.out.text rfl (.inl HBL.out.symm)
        have HT := Lib.hid hT
        clear hT
        go_wp2
        go_ret
        exact ⟨congrArg (fun x => Ending.returned (Value.string x)) (by first | (rw [extract_txt, HT.out]; rfl) | (rw [List.drop_of_length_le (by rw [HBL.out]; exact Nat.le_refl _)] at HT; unfold gS gV; rw [← HT.out]; rfl)), rfl⟩
theorem fromLast_any (b : ByteArray) (w : World) (hb : b.size ≤ 2000000) : Calls Try.prog 27 #[.string b] w fun e w' => e = .returned (.string (fromL b)) ∧ Below w.heap.size w w' := by
  unfold fromL
  go_enter Try.func27, Try.ntmps27
  go_wp2_with fail
  refine (turned_any b _ hb).mono ?_
  rintro e w1 ⟨rfl, b1⟩
  go_wp2_with fail
  refine (fromFirst_any _ _).mono ?_
  rintro e w2 ⟨rfl, rfl⟩
  go_wp2
  go_ret
  exact ⟨rfl, b1⟩
end Go.Proofs.Ytkpcocdflcpnoaa

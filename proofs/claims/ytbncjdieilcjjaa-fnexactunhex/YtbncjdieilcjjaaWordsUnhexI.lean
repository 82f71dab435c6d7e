/-
  The contract of impl.Unhex at every text: unS and unB.
-/
import Derived.Test.YtbncjdieilcjjaaWordsUnhex
import Derived.Laws.BitsAllLaws
namespace Go.Proofs.Ytbncjdieilcjjaa
open Go.RowKit

theorem or_shift (a b : Int) (a0 : 0 ≤ a) (a1 : a < 16) (b0 : 0 ≤ b) (b1 : b < 16) : bits .or .u8 (a * 16) b = 16 * a + b := by
  rw [u8_or _ _ (by omega) (by omega) (by omega) (by omega)]
  have h : (a * 16).toNat = a.toNat * 2 ^ 4 := by omega
  have e : a.toNat * 2 ^ 4 ||| b.toNat = a.toNat * 2 ^ 4 + b.toNat := by
    have := Nat.shiftLeft_add_eq_or_of_lt (b := b.toNat) (i := 4) (by omega) a.toNat
    rw [Nat.shiftLeft_eq] at this
    exact this.symm
  rw [h, e]; omega

theorem hexv_yes (n : Int) (w : World) (h0 : 0 ≤ valI n) :
    Calls Try.prog 21 #[.int .u8 n] w fun e w' => e = .returned (.tuple #[.int .u8 (valI n), .bool true]) ∧ w = w' := by
  have E : Hid ((48 ≤ n ∧ n ≤ 57 ∧ valI n = n - 48) ∨ (97 ≤ n ∧ n ≤ 102 ∧ valI n = n - 97 + 10)) := by
    show _ ∨ _
    unfold valI at h0 ⊢
    split at h0
    · exact .inl ⟨by omega, by omega, by rw [if_pos (by omega)]⟩
    · split at h0
      · exact .inr ⟨by omega, by omega, by rw [if_neg (by omega), if_pos (by omega)]⟩
      · omega
  clear h0
  rcases E.out with ⟨h1, h2, h3⟩ | ⟨h1, h2, h3⟩
  all_goals
    have H3 := Lib.hid h3
    clear h3 E
    go_enter Try.func21, Try.ntmps21
    go_wp2
    go_ret2
    exact ⟨by rw [H3.out]; rfl, rfl⟩

theorem hexv_no (n : Int) (w : World) (h0 : valI n < 0) :
    Calls Try.prog 21 #[.int .u8 n] w fun e w' => e = .returned (.tuple #[.int .u8 0, .bool false]) ∧ w = w' := by
  have E : ¬ (48 ≤ n ∧ n ≤ 57) ∧ ¬ (97 ≤ n ∧ n ≤ 102) := by
    unfold valI at h0
    split at h0
    · omega
    · split at h0 <;> omega
  clear h0
  obtain ⟨E1, E2⟩ := E
  by_cases h1 : 48 ≤ n <;> by_cases h2 : n ≤ 57 <;> by_cases h3 : 97 ≤ n <;> by_cases h4 : n ≤ 102
  all_goals first | (exfalso; omega) | skip
  all_goals
    clear E1 E2
    go_enter Try.func21, Try.ntmps21
    go_wp2
    go_ret2
    exact ⟨rfl, rfl⟩

set_option maxHeartbeats 1000000 in
theorem impl_Unhex (s : ByteArray) (w : World) (hs : s.size ≤ maxLen) :
    Calls Try.prog 11 #[.string s] w fun e w' => e = .returned (.tuple #[.string (unS s), .bool (unB s)]) ∧ Below w.heap.size w w' := by
  unfold maxLen at hs
  by_cases h1 : 40000 < s.size
  · obtain ⟨e1, e2⟩ := unB_bad (s := s) (.inl h1)
    rw [e1, e2]; clear e1 e2
    have hd : decide ((40000 : Int) < (s.size : Int)) = true := by simp; omega
    go_enter Try.func11, Try.ntmps11
    go_wp2
    go_ret2
    exact ⟨rfl, Below.refl _ _⟩
  have hd : decide ((40000 : Int) < (s.size : Int)) = false := by simp; omega
  by_cases h2 : s.size % 2 = 0
  case neg =>
    obtain ⟨e1, e2⟩ := unB_bad (s := s) (.inr h2)
    rw [e1, e2]; clear e1 e2
    have hm : ((s.size : Int) % 2 != 0) = true := by simp; omega
    go_enter Try.func11, Try.ntmps11
    go_wp2
    go_ret2
    exact ⟨rfl, Below.refl _ _⟩
  have hm : ((s.size : Int) % 2 != 0) = false := by simp; omega
  have h2' := Lib.hid h2
  clear h2
  obtain ⟨i0, hi, hz0, hz1, hz2⟩ := info_parts Try.info5
  go_enter Try.func11, Try.ntmps11
  go_wp2_with (at_make; refine wpList_make_own _ rfl _ _ 33 rfl w.heap.size 5 i0 (.int .u8 0) 1 Try.underlying33 hi hz0 hz1 .i64 .i64 _ (s.size / 2) rfl rfl (by first | rfl | omega) (by rw [hz2]; omega) (by unfold maxLen; omega) (Nat.le_refl _) ?_; intro w0 hown0 hgrow0)
  have hb0 : Below w.heap.size w w0 := (Below.refl _ _).grown hgrow0 (Nat.le_refl _) (fun k hk => by cases hk)
  go_loopw [4, 5] (fun v i wr => ∃ p : Nat, p ≤ s.size ∧ Hid (p % 2 = 0) ∧ i = .int .i64 p ∧ Hid (okL (s.data.toList.take p) = true) ∧ wr.ownsRow w.heap.size 5 1 v (p / 2) (Lib.byteCells (un (s.data.toList.take p))) ∧ Below w.heap.size w wr) (fun _ i _ => s.size - (intOf i).toNat)
  case atStart => exact ⟨0, Nat.zero_le _, rfl, rfl, rfl, hown0, hb0⟩
  case round =>
    clear hb0 hown0 hgrow0
    obtain ⟨p, hp, he, rfl, ho, hown, hb⟩ := hrel
    by_cases hlt : p < s.size
    · have hlt2 : p + 1 < s.size := by have a := he.out; have b := h2'.out; omega
      have hlt' : (p : Int) + 1 < (s.size : Int) := by omega
      have v1b := valI_bd s[p].toNat
      have v2b := valI_bd s[p + 1].toNat
      have hbs := hb.size
      by_cases ha : valI s[p].toNat < 0
      · by_cases hbb : valI s[p + 1].toNat < 0
        all_goals
          have E := Lib.hid (pair_no hlt2 he.out (.inl ha))
          go_wp2_with (first | (go_at_call 21; refine (hexv_yes _ _ (by omega)).mono ?_; rintro e w' ⟨rfl, rfl⟩) | (go_at_call 21; refine (hexv_no _ _ (by omega)).mono ?_; rintro e w' ⟨rfl, rfl⟩))
          go_ret2
          exact ⟨fin_un E.out, hb⟩
      by_cases hbb : valI s[p + 1].toNat < 0
      · have E := Lib.hid (pair_no hlt2 he.out (.inr hbb))
        go_wp2_with (first | (go_at_call 21; refine (hexv_yes _ _ (by omega)).mono ?_; rintro e w' ⟨rfl, rfl⟩) | (go_at_call 21; refine (hexv_no _ _ (by omega)).mono ?_; rintro e w' ⟨rfl, rfl⟩))
        go_ret2
        exact ⟨fin_un E.out, hb⟩
      have ho3 := or_shift (valI s[p].toNat) (valI s[p + 1].toNat) (by omega) (by omega) (by omega) (by omega)
      have ho2 := Lib.hid (pair_yes hlt2 he.out ho.out (by omega) (by omega))
      go_wp2_with (first | (go_at_call 21; refine (hexv_yes _ _ (by omega)).mono ?_; rintro e w' ⟨rfl, rfl⟩) | (go_at_call 21; refine (hexv_no _ _ (by omega)).mono ?_; rintro e w' ⟨rfl, rfl⟩) | (at_builtin; refine wpList_append_lies _ rfl (.tmp 50) (.tmp 55) _ rfl w.heap.size 5 i0 (.int .u8 0) 1 1 Try.underlying33 hi hz0 hz1 hz2 rfl (by omega) _ (p / 2) _ rfl (hown.alloc _) ⟨wr.heap.size, 0, none⟩ 1 1 [.int .u8 (16 * valI s[p].toNat + valI s[p + 1].toNat)] rfl rfl ?c1 ?c2 (by omega) ?c3 ?c4 ?c5 _ rfl ?_))
      case c1 => exact World.news_of_block (heap_alloc_new wr _)
      case c2 => simp [Value.oneCell']
      case c3 => unfold maxLen; omega
      case c4 => omega
      case c5 => simp; omega
      intro g cap w1 hown1 hgrow hat hlt1
      have R := rel_un hlt2 he.out (by omega) (by omega) hb hown hgrow rfl hown1
      clear hown hgrow hown1 hat hlt1 v1b v2b ho3
      go_wp2
      go_roundw
      case rel => exact ⟨p + 2, by omega, by have := he.out; show (p + 2) % 2 = 0; omega, by go_num, ho2, R.1, R.2⟩
      case measure => simp [intOf]; omega
    · obtain rfl : p = s.size := by omega
      rw [take_all] at hown
      have ho := ho.out
      rw [take_all] at ho
      have ho := Lib.hid ho
      have E := Lib.hid (unB_yes (s := s) (by omega) h2'.out ho.out)
      have hcv := conv_own (P := Try.prog) Try.underlying33 Try.underlying5 Try.underlying9 hown
      clear hown
      go_wp2
      go_ret2
      exact ⟨fin_un E.out, hb⟩
end Go.Proofs.Ytbncjdieilcjjaa

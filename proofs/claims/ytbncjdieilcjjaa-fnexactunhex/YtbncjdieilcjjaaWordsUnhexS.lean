/-
  The contract of spec.Unhex at every text: unS and unB.
-/
import Derived.Test.YtbncjdieilcjjaaWordsUnhex
namespace Go.Proofs.Ytbncjdieilcjjaa
open Go.RowKit

theorem val_any (n : Int) (w : World) :
    Calls Try.prog 20 #[.int .u8 n] w fun e w' => e = .returned (.int .i64 (valI n)) ∧ w = w' := by
  by_cases h1 : 48 ≤ n <;> by_cases h2 : n ≤ 57 <;> by_cases h3 : 97 ≤ n <;> by_cases h4 : n ≤ 102
  all_goals first | (exfalso; omega) | skip
  all_goals
    go_enter Try.func20, Try.ntmps20
    go_wp2
    go_ret
    exact ⟨ret_int (by unfold valI; go_arith), rfl⟩
set_option maxHeartbeats 1000000 in
theorem spec_Unhex (s : ByteArray) (w : World) (hs : s.size ≤ maxLen) :
    Calls Try.prog 10 #[.string s] w fun e w' => e = .returned (.tuple #[.string (unS s), .bool (unB s)]) ∧ Below w.heap.size w w' := by
  unfold maxLen at hs
  by_cases h1 : 40000 < s.size
  · obtain ⟨e1, e2⟩ := unB_bad (s := s) (.inl h1)
    rw [e1, e2]; clear e1 e2
    have hd : decide ((40000 : Int) < (s.size : Int)) = true := by simp; omega
    go_enter Try.func10, Try.ntmps10
    go_wp2
    go_ret2
    exact ⟨rfl, Below.refl _ _⟩
  have hd : decide ((40000 : Int) < (s.size : Int)) = false := by simp; omega
  by_cases h2 : s.size % 2 = 0
  case neg =>
    obtain ⟨e1, e2⟩ := unB_bad (s := s) (.inr h2)
    rw [e1, e2]; clear e1 e2
    have hm : ((s.size : Int) % 2 != 0) = true := by simp; omega
    go_enter Try.func10, Try.ntmps10
    go_wp2
    go_ret2
    exact ⟨rfl, Below.refl _ _⟩
  have hm : ((s.size : Int) % 2 != 0) = false := by simp; omega
  have h2' := Lib.hid h2
  clear h2
  obtain ⟨i0, hi, hz0, hz1, hz2⟩ := info_parts Try.info5
  go_enter Try.func10, Try.ntmps10
  go_wp2
  go_loopw [4, 5] (fun v i wr => ∃ p : Nat, p ≤ s.size ∧ Hid (p % 2 = 0) ∧ i = .int .i64 p ∧ Hid (okL (s.data.toList.take p) = true) ∧ wr.ownsRow w.heap.size 5 1 v (p / 2) (Lib.byteCells (un (s.data.toList.take p))) ∧ Below w.heap.size w wr) (fun _ i _ => s.size - (intOf i).toNat)
  case atStart => exact ⟨0, Nat.zero_le _, rfl, rfl, rfl, World.ownsRow_made _ #[] 0 (Nat.le_refl _) (by decide) rfl, (Below.refl _ _).alloc (Nat.le_refl _) _⟩
  case round =>
    obtain ⟨p, hp, he, rfl, ho, hown, hb⟩ := hrel
    by_cases hlt : p < s.size
    · have hlt2 : p + 1 < s.size := by have a := he.out; have b := h2'.out; omega
      have hlt' : (p : Int) + 1 < (s.size : Int) := by omega
      have v1b := valI_bd s[p].toNat
      have v2b := valI_bd s[p + 1].toNat
      have hbs := hb.size
      by_cases ha : valI s[p].toNat < 0
      · have E := Lib.hid (pair_no hlt2 he.out (.inl ha))
        go_wp2_with (first | (go_at_call 20; refine (val_any _ _).mono ?_; rintro e w' ⟨rfl, rfl⟩))
        go_ret2
        exact ⟨fin_un E.out, hb⟩
      by_cases hbb : valI s[p + 1].toNat < 0
      · have E := Lib.hid (pair_no hlt2 he.out (.inr hbb))
        go_wp2_with (first | (go_at_call 20; refine (val_any _ _).mono ?_; rintro e w' ⟨rfl, rfl⟩))
        go_ret2
        exact ⟨fin_un E.out, hb⟩
      have ho2 := Lib.hid (pair_yes hlt2 he.out ho.out (by omega) (by omega))
      go_wp2_with (first | (go_at_call 20; refine (val_any _ _).mono ?_; rintro e w' ⟨rfl, rfl⟩) | (at_builtin; refine wpList_append_lies _ rfl (.tmp 39) (.tmp 45) _ rfl w.heap.size 5 i0 (.int .u8 0) 1 1 Try.underlying33 hi hz0 hz1 hz2 rfl (by omega) _ (p / 2) _ rfl (hown.alloc _) ⟨wr.heap.size, 0, none⟩ 1 1 [.int .u8 (16 * valI s[p].toNat + valI s[p + 1].toNat)] rfl rfl ?c1 ?c2 (by omega) ?c3 ?c4 ?c5 _ rfl ?_))
      case c1 => exact World.news_of_block (heap_alloc_new wr _)
      case c2 => simp [Value.oneCell']
      case c3 => unfold maxLen; omega
      case c4 => omega
      case c5 => simp; omega
      intro g cap w1 hown1 hgrow hat hlt1
      have R := rel_un hlt2 he.out (by omega) (by omega) hb hown hgrow rfl hown1
      clear hown hgrow hown1 hat hlt1 v1b v2b
      go_wp2
      go_roundw
      case rel => exact ⟨p + 2, by omega, by have := he.out; show (p + 2) % 2 = 0; omega, by go_num, ho2, R.1, R.2⟩
      case measure => simp [intOf]; omega
    · obtain rfl : p = s.size := by omega
      rw [take_all] at hown
      have ho := ho.out
      rw [take_all] at ho
      have ho := Lib.hid ho
      have E := Lib.hid (unB_yes (s := s) (by omega) h2'.out ho.out)
      have hcv := conv_own (P := Try.prog) Try.underlying33 Try.underlying5 Try.underlying9 hown
      clear hown
      go_wp2
      go_ret2
      exact ⟨fin_un E.out, hb⟩
end Go.Proofs.Ytbncjdieilcjjaa

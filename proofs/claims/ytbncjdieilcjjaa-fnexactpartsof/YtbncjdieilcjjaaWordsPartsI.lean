/-
  The contracts of impl.withPart and impl.PartsOf at every text.
-/
import Derived.Test.YtbncjdieilcjjaaWordsPartsS
import Derived.WalkMore
import Derived.Deep.LoopGhost
namespace Go.Proofs.Ytbncjdieilcjjaa
open Go.RowKit

def WithPost (base n : Nat) (o : List ByteArray) (t : ByteArray) (w : World) (e : Ending) (w' : World) : Prop :=
  ∃ v', e = .returned v' ∧ w'.ownsRow base 9 1 v' (n + 1) (strV (o ++ [t])) ∧ Below base w w'

theorem withPart_yes (base n : Nat) (v : Value) (o : List ByteArray) (t : ByteArray) (w : World) (ht : 0 < t.size) (hown : w.ownsRow base 9 1 v n (strV o)) (hbase : base ≤ w.heap.size) (hn : n ≤ 1000) :
    Calls Try.prog 22 #[v, .string t] w (WithPost base n o t w) := by
  obtain ⟨i0, hi, hz0, hz1, hz2⟩ := info_parts Try.info9
  have e1 : t.toList.isEmpty = false := by
    have : t.toList.length = t.size := by rw [ByteArray.toList_eq]; simp
    cases h : t.toList with
    | nil => rw [h] at this; simp at this; omega
    | cons a l => rfl
  go_enter Try.func22, Try.ntmps22
  go_wp2_with (at_builtin; refine wpList_append_lies _ rfl (.tmp 8) (.tmp 10) _ rfl base 9 i0 (.string ⟨#[]⟩) 1 16 Try.underlying26 hi hz0 hz1 hz2 rfl (by omega) _ n _ rfl (hown.alloc _) ⟨w.heap.size, 0, none⟩ 1 1 [.string t] rfl rfl (World.news_of_block (cs := #[.string t]) (t := 9) (fr := (0, 0)) (heap_alloc_new w _)) (by simp [Value.oneCell']) (by omega) (by unfold maxLen; omega) (by omega) (by simp; omega) _ rfl ?_)
  intro g cap w1 hown1 hgrow hat hlt1
  have R : WithPost base n o t w (.returned (.slice (some ⟨g, 0, none⟩) (n + 1) cap)) w1 :=
    ⟨_, rfl, by simpa [strV] using hown1, ((Below.refl _ _).alloc hbase _).grown hgrow (by simp; omega) fun j hj => (hown.lt j hj).1⟩
  clear hown hgrow hown1 hat hlt1
  go_wp2
  go_ret
  exact R

theorem withPart_no (v : Value) (t : ByteArray) (w : World) (ht : t.size = 0) :
    Calls Try.prog 22 #[v, .string t] w fun e w' => e = .returned v ∧ w = w' := by
  have e1 : t.toList = [] := by
    have : t.toList.length = t.size := by rw [ByteArray.toList_eq]; simp
    rw [ht] at this
    exact List.eq_nil_of_length_eq_zero this
  clear ht
  go_enter Try.func22, Try.ntmps22
  go_wp2
  go_ret
  exact ⟨rfl, rfl⟩

set_option maxHeartbeats 2000000 in
theorem impl_PartsOf (s : ByteArray) (w : World) (hs : s.size ≤ maxLen) :
    Calls Try.prog 13 #[.string s] w (PartsPost s w) := by
  unfold maxLen at hs
  by_cases h1 : 600 < s.size
  · have E := Lib.hid (p_long h1)
    have hd : decide ((600 : Int) < (s.size : Int)) = true := by simp; omega
    go_enter Try.func13, Try.ntmps13
    go_wp2
    go_step3
    go_wp2
    rw [Exit.noGoto_ret]
    go_ret2
    exact PartsPost.of E.out (World.ownsRow_nil _ _ _ _) (Below.refl _ _)
  have hd : decide ((600 : Int) < (s.size : Int)) = false := by simp; omega
  go_enter Try.func13, Try.ntmps13
  go_wp2
  go_step3
  go_wp2
  go_step3
  go_wp2
  go_loopw [4, 5, 6] (fun v iv bv wr => ∃ (i b n : Nat) (o : List ByteArray), i ≤ s.size ∧ b ≤ i ∧ n ≤ i ∧ iv = .int .i64 i ∧ bv = .int .i64 b ∧ Hid (o.length = n) ∧ Hid (At s i b o) ∧ wr.ownsRow w.heap.size 9 1 v n (strV o) ∧ Below w.heap.size w wr)
    (fun _ iv _ _ => s.size - (intOf iv).toNat)
  case atStart => exact ⟨0, 0, 0, [], by omega, by omega, by omega, rfl, rfl, rfl, At.zero s, World.ownsRow_nil _ _ _ _, Below.refl _ _⟩
  case round =>
    obtain ⟨i, b, n, o, hi1, hbi, hni, rfl, rfl, hn, hA, hown, hb⟩ := hrel
    have hbs := hb.size
    by_cases hlt : i < s.size
    · have hlt' : (i : Int) < (s.size : Int) := by omega
      by_cases c1 : (s[i].toNat : Int) < 32
      · have E := Lib.hid (p_bad hlt (.inl c1))
        go_wp2
        try rw [Exit.noGoto_ret]
        go_ret2
        exact PartsPost.of E.out (World.ownsRow_nil _ _ _ _) hb
      by_cases c2 : 126 < (s[i].toNat : Int)
      · have E := Lib.hid (p_bad hlt (.inr c2))
        go_wp2
        try rw [Exit.noGoto_ret]
        go_ret2
        exact PartsPost.of E.out (World.ownsRow_nil _ _ _ _) hb
      by_cases c3 : (s[i].toNat : Int) = 32
      · have hA' : Hid (At s (i + 1) (i + 1) (addPart s o b i)) := hA.out.blank hlt c3
        have c3' : ((s[i].toNat : Int) == 32) = true := by simp [c3]
        have C3 := Lib.hid c3
        clear c3
        have hsz : (s.extract b i).size = i - b := by simp; omega
        by_cases c4 : b < i
        · have hz := withPart_yes w.heap.size n u4 o (s.extract b i) wr (by omega) hown hbs (by omega)
          have HZ := Lib.hid hz
          clear hz hsz
          rw [addPart_yes c4] at hA'
          go_wp2_with (go_at_call 22; refine HZ.out.mono ?_; rintro e w1 ⟨v1, rfl, hown1, hb1⟩)
          go_roundw
          case rel => exact ⟨i + 1, i + 1, n + 1, _, by omega, by omega, by omega, by go_num, by go_num, by show _ = _; simp; exact hn.out, hA', hown1, hb.trans hb1⟩
          case measure => simp [intOf]; omega
        · have hz := withPart_no u4 (s.extract b i) wr (by omega)
          have HZ := Lib.hid hz
          clear hz hsz
          rw [addPart_no c4] at hA'
          go_wp2_with (go_at_call 22; refine HZ.out.mono ?_; rintro e w1 ⟨rfl, rfl⟩)
          go_roundw
          case rel => exact ⟨i + 1, i + 1, n, _, by omega, by omega, by omega, by go_num, by go_num, hn, hA', hown, hb⟩
          case measure => simp [intOf]; omega
      · have hA' : Hid (At s (i + 1) b o) := hA.out.other hlt (by omega) (by omega) c3
        have c3' : ((s[i].toNat : Int) == 32) = false := by simpa using c3
        go_wp2
        go_roundw
        case rel => exact ⟨i + 1, b, n, o, by omega, by omega, by omega, by go_num, rfl, hn, hA', hown, hb⟩
        case measure => simp [intOf]; omega
    · obtain rfl : i = s.size := by omega
      have hF : Hid (okTo s s.size ∧ finL s = addPart s o b s.size) := ⟨hA.out.1, hA.out.fin⟩
      clear hA
      have hsz : (s.extract b s.size).size = s.size - b := by simp
      by_cases c4 : b < s.size
      · have HZ := Lib.hid (withPart_yes w.heap.size n u4 o (s.extract b s.size) wr (by omega) hown hbs (by omega))
        clear hsz
        have hF2 := hF.out
        rw [addPart_yes c4] at hF2
        have hl : (o ++ [s.extract b s.size]).length = n + 1 := by simp; exact hn.out
        by_cases c5 : 12 < n + 1
        · have E := Lib.hid (p_many hF2.2 (by omega))
          clear hl hF hF2
          go_wp2_with (go_at_call 22; refine HZ.out.mono ?_; rintro e w1 ⟨v1, rfl, hown1, hb1⟩; obtain ⟨ad, cap, hv⟩ := own_shape hown1; subst hv)
          try rw [Exit.noGoto_ret]
          go_ret2
          exact PartsPost.of E.out (World.ownsRow_nil _ _ _ _) (hb.trans hb1)
        · have E := Lib.hid (p_yes (by omega) hF2.1 hF2.2 (by omega))
          have HL := Lib.hid hl
          clear hl hF hF2
          go_wp2_with (go_at_call 22; refine HZ.out.mono ?_; rintro e w1 ⟨v1, rfl, hown1, hb1⟩; obtain ⟨ad, cap, hv⟩ := own_shape hown1; subst hv)
          try rw [Exit.noGoto_ret]
          go_ret2
          exact PartsPost.of E.out (by rw [HL.out]; exact hown1) (hb.trans hb1)
      · have HZ := Lib.hid (withPart_no u4 (s.extract b s.size) wr (by omega))
        clear hsz
        have hF2 := hF.out
        rw [addPart_no c4] at hF2
        obtain ⟨ad, cap, hv⟩ := own_shape hown
        subst hv
        by_cases c5 : 12 < n
        · have E := Lib.hid (p_many hF2.2 (by have := hn.out; omega))
          clear hF hF2
          go_wp2_with (go_at_call 22; refine HZ.out.mono ?_; rintro e w1 ⟨rfl, rfl⟩)
          try rw [Exit.noGoto_ret]
          go_ret2
          exact PartsPost.of E.out (World.ownsRow_nil _ _ _ _) hb
        · have E := Lib.hid (p_yes (by omega) hF2.1 hF2.2 (by have := hn.out; omega))
          clear hF hF2
          go_wp2_with (go_at_call 22; refine HZ.out.mono ?_; rintro e w1 ⟨rfl, rfl⟩)
          try rw [Exit.noGoto_ret]
          go_ret2
          exact PartsPost.of E.out (by rw [hn.out]; exact hown) hb
end Go.Proofs.Ytbncjdieilcjjaa

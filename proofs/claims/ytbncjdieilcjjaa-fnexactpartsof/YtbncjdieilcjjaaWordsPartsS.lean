/-
  The contract of spec.PartsOf at every text.
-/
import Derived.Test.YtbncjdieilcjjaaRows
import Derived.Test.YtbncjdieilcjjaaWordsParts
namespace Go.Proofs.Ytbncjdieilcjjaa
open Go.RowKit

theorem Try.info9 : (Try.prog.info? 9).map (fun i => (i.zero, i.size, i.bytes)) = some (some (.string ⟨#[]⟩), 1, 16) := by kernel_rfl

/-- What PartsOf hands back: a row of its own that holds the parts, and whether they are right. -/
def PartsPost (s : ByteArray) (w : World) (e : Ending) (w' : World) : Prop :=
  ∃ v, e = .returned (.tuple #[v, .bool (pB s)]) ∧ w'.ownsRow w.heap.size 9 1 v (pL s).length (strV (pL s)) ∧ Below w.heap.size w w'
theorem PartsPost.of {s : ByteArray} {w w' : World} {v : Value} {b : Bool} {l : List ByteArray} (E : pB s = b ∧ pL s = l) (ho : w'.ownsRow w.heap.size 9 1 v l.length (strV l)) (hb : Below w.heap.size w w') :
    PartsPost s w (.returned (.tuple #[v, .bool b])) w' := by
  obtain ⟨rfl, rfl⟩ := E
  exact ⟨v, rfl, ho, hb⟩
/-- A row that a part was appended to. -/
theorem rel_part {s : ByteArray} {b i n : Nat} {o : List ByteArray} {w wr w1 : World} {v v1 : Value} {e : TypeId} {ob : Obj} (h : b < i) (hb : Below w.heap.size w wr)
    (hown : wr.ownsRow w.heap.size e 1 v n (strV o)) (hg : World.grownBy (wr.alloc ob) w1 v.ownBlock)
    (hown1 : w1.ownsRow w.heap.size e 1 v1 (n + 1) (strV o ++ [.string (s.extract b i)])) :
    w1.ownsRow w.heap.size e 1 v1 (n + 1) (strV (addPart s o b i)) ∧ Below w.heap.size w w1 := by
  rw [addPart_yes h]
  refine ⟨by simpa [strV] using hown1, ?_⟩
  have hb1 : Below w.heap.size w (wr.alloc ob) := hb.alloc hb.size ob
  exact hb1.grown hg hb1.size fun j hj => (hown.lt j hj).1

/-- What the loop of spec.PartsOf holds. -/
def RelS (s : ByteArray) (i b : Nat) (o : List ByteArray) : Prop := (i ≤ s.size ∧ At s i b o) ∨ (i = s.size + 1 ∧ okTo s s.size ∧ finL s = o)

set_option maxHeartbeats 2000000 in
theorem spec_PartsOf (s : ByteArray) (w : World) (hs : s.size ≤ maxLen) :
    Calls Try.prog 12 #[.string s] w (PartsPost s w) := by
  unfold maxLen at hs
  obtain ⟨i0, hi, hz0, hz1, hz2⟩ := info_parts Try.info9
  by_cases h1 : 600 < s.size
  · have E := Lib.hid (p_long h1)
    have hd : decide ((600 : Int) < (s.size : Int)) = true := by simp; omega
    go_enter Try.func12, Try.ntmps12
    go_wp2
    go_ret2
    exact PartsPost.of E.out (World.ownsRow_made _ #[] 0 (Nat.le_refl _) (by decide) rfl) ((Below.refl _ _).alloc (Nat.le_refl _) _)
  have hd : decide ((600 : Int) < (s.size : Int)) = false := by simp; omega
  go_enter Try.func12, Try.ntmps12
  go_wp2
  go_loopw [4, 5, 6] (fun v bv iv wr => ∃ (i b n : Nat) (o : List ByteArray), i ≤ s.size + 1 ∧ b ≤ i ∧ n ≤ i ∧ iv = .int .i64 i ∧ bv = .int .i64 b ∧ Hid (o.length = n) ∧ Hid (RelS s i b o) ∧ wr.ownsRow w.heap.size 9 1 v n (strV o) ∧ Below w.heap.size w wr)
    (fun _ _ iv _ => s.size + 1 - (intOf iv).toNat)
  case atStart => exact ⟨0, 0, 0, [], by omega, by omega, by omega, rfl, rfl, rfl, .inl ⟨by omega, At.zero s⟩, World.ownsRow_made _ #[] 0 (Nat.le_refl _) (by decide) rfl, (Below.refl _ _).alloc (Nat.le_refl _) _⟩
  case round =>
    obtain ⟨i, b, n, o, hi1, hbi, hni, rfl, rfl, hn, hr, hown, hb⟩ := hrel
    have hbs := hb.size
    by_cases hlt : i < s.size
    · have hA : Hid (At s i b o) := by
        rcases hr.out with ⟨_, h⟩ | ⟨h, _⟩
        · exact h
        · exfalso; omega
      clear hr
      have hlt' : (i : Int) < (s.size : Int) := by omega
      by_cases c1 : (s[i].toNat : Int) < 32
      · have E := Lib.hid (p_bad hlt (.inl c1))
        go_wp2
        go_ret2
        exact PartsPost.of E.out (World.ownsRow_made _ #[] 0 hbs (by decide) rfl) (hb.alloc hbs _)
      by_cases c2 : 126 < (s[i].toNat : Int)
      · have E := Lib.hid (p_bad hlt (.inr c2))
        go_wp2
        go_ret2
        exact PartsPost.of E.out (World.ownsRow_made _ #[] 0 hbs (by decide) rfl) (hb.alloc hbs _)
      by_cases c3 : (s[i].toNat : Int) = 32
      · have hA' : Hid (At s (i + 1) (i + 1) (addPart s o b i)) := hA.out.blank hlt c3
        have c3' : ((s[i].toNat : Int) != 32) = false := by simp [c3]
        have C3 := Lib.hid c3
        clear c3
        by_cases c4 : b < i
        · go_wp2_with (at_builtin; refine wpList_append_lies _ rfl (.tmp 48) (.tmp 53) _ rfl w.heap.size 9 i0 (.string ⟨#[]⟩) 1 16 Try.underlying26 hi hz0 hz1 hz2 rfl (by omega) _ n _ rfl (hown.alloc _) ⟨wr.heap.size, 0, none⟩ 1 1 [.string (s.extract b i)] rfl rfl (World.news_of_block (cs := #[.string (s.extract b i)]) (t := 9) (fr := (0, 0)) (heap_alloc_new wr _)) (by simp [Value.oneCell']) (by omega) (by unfold maxLen; omega) (by omega) (by simp; omega) _ rfl ?_)
          intro g cap w1 hown1 hgrow hat hlt1
          have R := rel_part c4 hb hown hgrow hown1
          have hn2 : Hid ((addPart s o b i).length = n + 1) := by show _ = _; rw [addPart_yes c4]; simp; exact hn.out
          clear hown hgrow hown1 hat hlt1
          go_wp2
          go_roundw
          case rel => exact ⟨i + 1, i + 1, n + 1, _, by omega, by omega, by omega, by go_num, by go_num, hn2, .inl ⟨by omega, hA'⟩, R.1, R.2⟩
          case measure => simp [intOf]; omega
        · have hA2 := hA'.out
          rw [addPart_no c4] at hA2
          have hA' := Lib.hid hA2
          clear hA2
          go_wp2
          go_roundw
          case rel => exact ⟨i + 1, i + 1, n, o, by omega, by omega, by omega, by go_num, by go_num, hn, .inl ⟨by omega, hA'⟩, hown, hb⟩
          case measure => simp [intOf]; omega
      · have hA' : Hid (At s (i + 1) b o) := hA.out.other hlt (by omega) (by omega) c3
        have c3' : ((s[i].toNat : Int) != 32) = true := by simpa using c3
        go_wp2
        go_roundw
        case rel => exact ⟨i + 1, b, n, o, by omega, by omega, by omega, by go_num, rfl, hn, .inl ⟨by omega, hA'⟩, hown, hb⟩
        case measure => simp [intOf]; omega
    · by_cases he : i = s.size
      · have hA : Hid (At s s.size b o) := by
          rcases hr.out with ⟨_, h⟩ | ⟨h, _⟩
          · rw [← he]; exact h
          · exfalso; omega
        clear hr
        have hF : Hid (okTo s s.size ∧ finL s = addPart s o b s.size) := ⟨hA.out.1, hA.out.fin⟩
        rw [← he] at hF hA
        have HE := Lib.hid he
        have l1 : i ≤ s.size := by omega
        have l2 : s.size ≤ i := by omega
        have hdl : decide ((i : Int) < (s.size : Int)) = false := by simp; omega
        clear he
        clear hA
        by_cases c4 : b < i
        · go_wp2_with (at_builtin; refine wpList_append_lies _ rfl (.tmp 48) (.tmp 53) _ rfl w.heap.size 9 i0 (.string ⟨#[]⟩) 1 16 Try.underlying26 hi hz0 hz1 hz2 rfl (by omega) _ n _ rfl (hown.alloc _) ⟨wr.heap.size, 0, none⟩ 1 1 [.string (s.extract b i)] rfl rfl (World.news_of_block (cs := #[.string (s.extract b i)]) (t := 9) (fr := (0, 0)) (heap_alloc_new wr _)) (by simp [Value.oneCell']) (by omega) (by unfold maxLen; omega) (by omega) (by simp; omega) _ rfl ?_)
          intro g cap w1 hown1 hgrow hat hlt1
          have R := rel_part c4 hb hown hgrow hown1
          have hn2 : Hid ((addPart s o b i).length = n + 1) := by show _ = _; rw [addPart_yes c4]; simp; exact hn.out
          clear hown hgrow hown1 hat hlt1
          go_wp2
          go_roundw
          case rel => exact ⟨i + 1, i + 1, n + 1, _, by omega, by omega, by omega, by go_num, by go_num, hn2, .inr ⟨by have := HE.out; omega, by have := HE.out; rw [← this]; exact hF.out.1, hF.out.2⟩, R.1, R.2⟩
          case measure => simp [intOf]; omega
        · have hF2 := hF.out
          rw [addPart_no c4] at hF2
          have hF := Lib.hid hF2
          clear hF2
          go_wp2
          go_roundw
          case rel => exact ⟨i + 1, i + 1, n, o, by omega, by omega, by omega, by go_num, by go_num, hn, .inr ⟨by have := HE.out; omega, by have := HE.out; rw [← this]; exact hF.out.1, hF.out.2⟩, hown, hb⟩
          case measure => simp [intOf]; omega
      · have E0 : Hid (okTo s s.size ∧ finL s = o) := by
          rcases hr.out with ⟨h, _⟩ | ⟨_, h⟩
          · exfalso; omega
          · exact h
        clear hr
        have hgt : (s.size : Int) < (i : Int) := by omega
        obtain ⟨ad, cap, hv⟩ := own_shape hown
        subst hv
        by_cases c5 : 12 < n
        · have E := Lib.hid (p_many E0.out.2 (by have := hn.out; omega))
          go_wp2
          go_ret2
          exact PartsPost.of E.out (World.ownsRow_made _ #[] 0 hbs (by decide) rfl) (hb.alloc hbs _)
        · have E := Lib.hid (p_yes (by omega) E0.out.1 E0.out.2 (by have := hn.out; omega))
          go_wp2
          go_ret2
          exact PartsPost.of E.out (by have := hn.out; rw [this]; exact hown) hb
end Go.Proofs.Ytbncjdieilcjjaa

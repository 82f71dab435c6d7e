/-
  The contracts of spec.l02Add at every two rows, and of spec.l02Sub.
-/
import Derived.Test.YtpgckdhnmhjkhaaNAddB
namespace Go.Proofs.Ytpgckdhnmhjkhaa
open Go.RowKit

theorem add_any (b1 b2 ca cb : Nat) (A B : Option Addr) (la lb : List Nat) (w : World) (ha : RowN w b1 A ca la) (hb : RowN w b2 B cb lb) (La : Limbs la) (Lb : Limbs lb) (hla : la.length ≤ 1000000) (hlb : lb.length ≤ 1000000) :
    Calls Try.prog 56 #[.slice A la.length ca, .slice B lb.length cb] w (RowPost (SumP (lV la + lV lb)) w) := by
  by_cases h : lb.length ≤ la.length
  · exact add_core b1 b2 ca cb A B la lb w ha hb La Lb hla h
  · have H := Lib.hid (add_core b2 b1 cb ca B A lb la w hb ha Lb La hlb (by omega))
    have h1 : (la.length : Int) < (lb.length : Int) := by omega
    generalize la.length = na at *
    generalize lb.length = nb at *
    clear ha hb La Lb
    go_enter Try.func56, Try.ntmps56
    go_wp2_with fail
    refine H.out.mono ?_
    rintro e w1 ⟨R, cap, l, rfl, hp, hr, hb⟩
    have Z : RowPost (SumP (lV la + lV lb)) w (.returned (.slice R l.length cap)) w1 := ⟨R, cap, l, rfl, by rw [Nat.add_comm]; exact hp, hr, hb⟩
    have HZ := Lib.hid Z
    clear Z hp hr hb
    go_wp2
    go_ret
    exact HZ.out

/-- What the loop of l02Sub holds behind i limbs: c is what was borrowed. -/
def SubRel (la lb : List Nat) (i c : Nat) (o : List Nat) : Prop := Limbs o ∧ o.length = i ∧ lV (la.take i) + 16777216 ^ i * c = lV (lb.take i) + lV o
theorem SubRel.next {la lb o : List Nat} {i c y z : Nat} (h : SubRel la lb i c o) (hy : y < 16777216) (hn : la.getD i 0 + 16777216 * z = lb.getD i 0 + c + y) : SubRel la lb (i + 1) z (o ++ [y]) := by
  obtain ⟨h1, h2, h3⟩ := h
  refine ⟨h1.snoc hy, by simp [h2], ?_⟩
  rw [lV_snoc, h2, lV_take_succ, lV_take_succ, Nat.pow_succ, Nat.mul_assoc]
  have e : 16777216 ^ i * (la.getD i 0 + 16777216 * z) = 16777216 ^ i * (lb.getD i 0 + c + y) := by rw [hn]
  rw [Nat.mul_add, Nat.mul_add, Nat.mul_add] at e
  omega
theorem SubRel.done {la lb o : List Nat} {c : Nat} (h : SubRel la lb la.length c o) (hl : lb.length ≤ la.length) (hla : la.length ≤ 1000000) (hle : lV lb ≤ lV la) : SumP (lV la - lV lb) o := by
  obtain ⟨h1, h2, h3⟩ := h
  rw [List.take_of_length_le (Nat.le_refl _), List.take_of_length_le hl] at h3
  have hlt := lV_lt h1
  rw [h2] at hlt
  have hc : c = 0 := by
    rcases Nat.eq_zero_or_pos c with h | h
    · exact h
    · have : 16777216 ^ la.length * 1 ≤ 16777216 ^ la.length * c := Nat.mul_le_mul_left _ h
      omega
  subst hc
  exact ⟨h1, by simp at h3; omega, by omega⟩

set_option maxHeartbeats 2000000 in
theorem sub_any (b1 b2 ca cb : Nat) (A B : Option Addr) (la lb : List Nat) (w : World) (ha : RowN w b1 A ca la) (hb : RowN w b2 B cb lb) (La : Limbs la) (Lb : Limbs lb) (hla : la.length ≤ 1000000) (hlb : lb.length ≤ la.length) (hle : lV lb ≤ lV la) :
    Calls Try.prog 57 #[.slice A la.length ca, .slice B lb.length cb] w (RowPost (InP (lV la - lV lb)) w) := by
  obtain ⟨i0, hi, hz0, hz1, hz2⟩ := info_parts Try.infoI
  have HA := Lib.hid ha
  have HB := Lib.hid hb
  have HLA := Lib.hid La
  have HLB := Lib.hid Lb
  have HLE := Lib.hid hle
  obtain ⟨na, hna⟩ : ∃ n, la.length = n := ⟨_, rfl⟩
  obtain ⟨nb, hnb⟩ : ∃ n, lb.length = n := ⟨_, rfl⟩
  rw [hna, hnb] at hlb
  rw [hna] at hla
  rw [hna, hnb]
  have HNA := Lib.hid hna
  have HNB := Lib.hid hnb
  clear ha hb La Lb hna hnb hle
  go_enter Try.func57, Try.ntmps57
  go_wp2_with (at_make; refine wpList_make_own _ rfl _ _ 33 rfl w.heap.size 3 i0 (.int .i64 0) 1 Try.underlying33 hi hz0 hz1 .i64 .i64 _ na rfl rfl (by first | rfl | omega) (by rw [hz2]; omega) (by unfold maxLen; omega) (Nat.le_refl _) ?_; intro w0 hown0 hgrow0)
  have hb0 : Below w.heap.size w w0 := (Below.refl _ _).grown hgrow0 (Nat.le_refl _) (fun k hk => by cases hk)
  have HO0 : Hid (RowN w0 w.heap.size (some ⟨w.heap.size, 0, none⟩) na []) := hown0
  clear hown0 hgrow0
  go_loopw [5, 6, 7] (fun v cv iv wr => ∃ (i c cap : Nat) (o : List Nat) (R : Option Addr), i ≤ na ∧ c ≤ 1 ∧ iv = .int .i64 i ∧ cv = .int .i64 c ∧ v = .slice R i cap ∧ Hid (SubRel la lb i c o) ∧ Hid (RowN wr w.heap.size R cap o) ∧ Below w.heap.size w wr) (fun _ _ iv _ => na - (intOf iv).toNat)
  case atStart => exact ⟨0, 0, na, [], _, by omega, by omega, rfl, rfl, rfl, ⟨Limbs.nil, rfl, by simp [lV]⟩, HO0, hb0⟩
  case round =>
    clear HO0 hb0
    obtain ⟨i, c, cap, o, R, hin, hc1, rfl, rfl, rfl, hR, hO, hb⟩ := hrel
    have hbs := hb.size
    have hol : o.length = i := hR.out.2.1
    have hO2 : Hid (wr.ownsRow w.heap.size 3 1 (.slice R i cap) i (natV o)) := by
      have h := hO.out
      unfold RowN at h
      rw [hol] at h
      exact h
    by_cases hlt : i < na
    · have hia : i < la.length := by rw [HNA.out]; exact hlt
      have hlt' : (i : Int) < (na : Int) := by omega
      obtain ⟨ga, rfl, _, _, c1, _⟩ := (HA.out.below hb).at_ hia
      have hxa := HLA.out.get hia
      by_cases hlb2 : i < nb
      · have hib : i < lb.length := by rw [HNB.out]; exact hlb2
        have hlb2' : (i : Int) < (nb : Int) := by omega
        obtain ⟨gb, rfl, _, _, c2, _⟩ := (HB.out.below hb).at_ hib
        have hxb := HLB.out.get hib
        by_cases hneg : la[i] < lb[i] + c
        · obtain ⟨y, hy⟩ : ∃ y, la[i] + 16777216 = lb[i] + c + y := ⟨la[i] + 16777216 - (lb[i] + c), by omega⟩
          have HN := Lib.hid (hR.out.next (y := y) (z := 1) (by omega) (by rw [getD_eq hia, getD_eq hib]; omega))
          obtain ⟨d, hd⟩ : ∃ d : Int, (la[i] : Int) - (c : Int) - (lb[i] : Int) = d := ⟨_, rfl⟩
          have g1 : d < 0 := by omega
          have g2 : d + 16777216 = (y : Int) := by omega
          have g0 : -50000000 < d := by omega
          clear hneg hy hR
          go_wp2_with (at_builtin; refine wpList_append_lies _ rfl (.tmp 38) (.tmp 40) _ rfl w.heap.size 3 i0 (.int .i64 0) 1 8 Try.underlying33 hi hz0 hz1 hz2 rfl (by omega) _ i _ rfl (World.ownsRow.alloc hO2.out _) ⟨wr.heap.size, 0, none⟩ 1 1 [.int .i64 (y : Int)] rfl rfl (World.news_of_block (cs := #[.int .i64 (y : Int)]) (t := 3) (fr := (0, 0)) (heap_alloc_new wr _)) (by simp [Value.oneCell']) (by omega) (by unfold maxLen; omega) (by omega) (by simp; omega) _ rfl ?_)
          intro g cp w1 hown1 hgrow hat hlt1
          have Rr := Lib.hid (row_snocI hb hO2.out hown1 hgrow)
          clear hown1 hgrow hat hlt1 hO hO2
          go_wp2
          go_roundw
          case rel => exact ⟨i + 1, 1, cp, o ++ [y], _, by omega, by omega, by go_num, rfl, rfl, HN, Rr.out.1, Rr.out.2⟩
          case measure => simp [intOf]; omega
        · obtain ⟨y, hy⟩ : ∃ y, la[i] = lb[i] + c + y := ⟨la[i] - (lb[i] + c), by omega⟩
          have HN := Lib.hid (hR.out.next (y := y) (z := 0) (by omega) (by rw [getD_eq hia, getD_eq hib]; omega))
          have g1 : (la[i] : Int) - (c : Int) - (lb[i] : Int) = (y : Int) := by omega
          clear hneg hy hR
          go_wp2_with (at_builtin; refine wpList_append_lies _ rfl (.tmp 38) (.tmp 40) _ rfl w.heap.size 3 i0 (.int .i64 0) 1 8 Try.underlying33 hi hz0 hz1 hz2 rfl (by omega) _ i _ rfl (World.ownsRow.alloc hO2.out _) ⟨wr.heap.size, 0, none⟩ 1 1 [.int .i64 (y : Int)] rfl rfl (World.news_of_block (cs := #[.int .i64 (y : Int)]) (t := 3) (fr := (0, 0)) (heap_alloc_new wr _)) (by simp [Value.oneCell']) (by omega) (by unfold maxLen; omega) (by omega) (by simp; omega) _ rfl ?_)
          intro g cp w1 hown1 hgrow hat hlt1
          have Rr := Lib.hid (row_snocI hb hO2.out hown1 hgrow)
          clear hown1 hgrow hat hlt1 hO hO2
          go_wp2
          go_roundw
          case rel => exact ⟨i + 1, 0, cp, o ++ [y], _, by omega, by omega, by go_num, rfl, rfl, HN, Rr.out.1, Rr.out.2⟩
          case measure => simp [intOf]; omega
      · have hlb2' : ¬ (i : Int) < (nb : Int) := by omega
        have hgb : lb.getD i 0 = 0 := by rw [List.getD_eq_getElem?_getD, List.getElem?_eq_none (by rw [HNB.out]; omega)]; rfl
        by_cases hneg : la[i] < c
        · obtain ⟨y, hy⟩ : ∃ y, la[i] + 16777216 = c + y := ⟨la[i] + 16777216 - (c), by omega⟩
          have HN := Lib.hid (hR.out.next (y := y) (z := 1) (by omega) (by rw [getD_eq hia, hgb]; omega))
          obtain ⟨d, hd⟩ : ∃ d : Int, (la[i] : Int) - (c : Int) = d := ⟨_, rfl⟩
          have g1 : d < 0 := by omega
          have g2 : d + 16777216 = (y : Int) := by omega
          have g0 : -50000000 < d := by omega
          clear hneg hy hR
          go_wp2_with (at_builtin; refine wpList_append_lies _ rfl (.tmp 38) (.tmp 40) _ rfl w.heap.size 3 i0 (.int .i64 0) 1 8 Try.underlying33 hi hz0 hz1 hz2 rfl (by omega) _ i _ rfl (World.ownsRow.alloc hO2.out _) ⟨wr.heap.size, 0, none⟩ 1 1 [.int .i64 (y : Int)] rfl rfl (World.news_of_block (cs := #[.int .i64 (y : Int)]) (t := 3) (fr := (0, 0)) (heap_alloc_new wr _)) (by simp [Value.oneCell']) (by omega) (by unfold maxLen; omega) (by omega) (by simp; omega) _ rfl ?_)
          intro g cp w1 hown1 hgrow hat hlt1
          have Rr := Lib.hid (row_snocI hb hO2.out hown1 hgrow)
          clear hown1 hgrow hat hlt1 hO hO2
          go_wp2
          go_roundw
          case rel => exact ⟨i + 1, 1, cp, o ++ [y], _, by omega, by omega, by go_num, rfl, rfl, HN, Rr.out.1, Rr.out.2⟩
          case measure => simp [intOf]; omega
        · obtain ⟨y, hy⟩ : ∃ y, la[i] = c + y := ⟨la[i] - (c), by omega⟩
          have HN := Lib.hid (hR.out.next (y := y) (z := 0) (by omega) (by rw [getD_eq hia, hgb]; omega))
          have g1 : (la[i] : Int) - (c : Int) = (y : Int) := by omega
          clear hneg hy hR
          go_wp2_with (at_builtin; refine wpList_append_lies _ rfl (.tmp 38) (.tmp 40) _ rfl w.heap.size 3 i0 (.int .i64 0) 1 8 Try.underlying33 hi hz0 hz1 hz2 rfl (by omega) _ i _ rfl (World.ownsRow.alloc hO2.out _) ⟨wr.heap.size, 0, none⟩ 1 1 [.int .i64 (y : Int)] rfl rfl (World.news_of_block (cs := #[.int .i64 (y : Int)]) (t := 3) (fr := (0, 0)) (heap_alloc_new wr _)) (by simp [Value.oneCell']) (by omega) (by unfold maxLen; omega) (by omega) (by simp; omega) _ rfl ?_)
          intro g cp w1 hown1 hgrow hat hlt1
          have Rr := Lib.hid (row_snocI hb hO2.out hown1 hgrow)
          clear hown1 hgrow hat hlt1 hO hO2
          go_wp2
          go_roundw
          case rel => exact ⟨i + 1, 0, cp, o ++ [y], _, by omega, by omega, by go_num, rfl, rfl, HN, Rr.out.1, Rr.out.2⟩
          case measure => simp [intOf]; omega
    · obtain rfl : i = na := by omega
      have hlt' : ¬ (i : Int) < (i : Int) := by omega
      have hR2 := hR.out
      rw [← HNA.out] at hR2
      have F := Lib.hid (hR2.done (by rw [HNA.out, HNB.out]; exact hlb) (by rw [HNA.out]; exact hla) HLE.out)
      have hTr := trim_any _ cap R o wr hO.out (by rw [hol]; omega)
      rw [hol] at hTr
      have HT := Lib.hid hTr
      have HOL := Lib.hid hol
      clear hR2 hTr hR hol
      go_wp2_with (go_at_call 74; refine HT.out.mono ?_; rintro e w1 ⟨m, hm, rfl, rfl, hv, ht⟩)
      go_ret
      have hL : (o.take m).length = m := by rw [List.length_take]; omega
      exact ⟨R, cap, o.take m, by rw [hL]; rfl, ⟨F.out.1.take m, ht, by rw [hv]; exact F.out.2.1⟩, hO.out.take hm, hb⟩
end Go.Proofs.Ytpgckdhnmhjkhaa

/-
  The contracts of spec.l02Add and spec.l02Sub.
-/
import Derived.Test.YtkpcocdflcpnoaaNAdd
namespace Go.Proofs.Ytkpcocdflcpnoaa
open Go.RowKit

/-- A row's number, and that the row is not too long. -/
def SumP (n : Nat) (l : List Nat) : Prop := Limbs l ∧ lV l = n ∧ l.length ≤ 1000001
/-- What the loop of l02Add holds behind i limbs. -/
def AddRel (la lb : List Nat) (i c : Nat) (o : List Nat) : Prop := Limbs o ∧ o.length = i ∧ lV o + 16777216 ^ i * c = lV (la.take i) + lV (lb.take i)
theorem AddRel.next {la lb o : List Nat} {i c : Nat} (h : AddRel la lb i c o) {n : Nat} (hn : n = la.getD i 0 + lb.getD i 0 + c) : AddRel la lb (i + 1) (n / 16777216) (o ++ [n % 16777216]) := by
  obtain ⟨h1, h2, h3⟩ := h
  refine ⟨h1.snoc (by omega), by simp [h2], ?_⟩
  rw [lV_snoc, h2, lV_take_succ, lV_take_succ, Nat.pow_succ, Nat.mul_assoc]
  have e : 16777216 ^ i * (n % 16777216) + 16777216 ^ i * (16777216 * (n / 16777216)) = 16777216 ^ i * n := by
    rw [← Nat.mul_add]; congr 1; omega
  rw [hn, Nat.mul_add, Nat.mul_add] at e
  rw [hn] at *
  omega
theorem AddRel.done {la lb o : List Nat} {c : Nat} (h : AddRel la lb la.length c o) (hl : lb.length ≤ la.length) (hla : la.length ≤ 1000000) (hc : c < 16777216) : SumP (lV la + lV lb) (o ++ [c]) ∧ (c = 0 → SumP (lV la + lV lb) o) := by
  obtain ⟨h1, h2, h3⟩ := h
  rw [List.take_of_length_le (Nat.le_refl _), List.take_of_length_le hl] at h3
  refine ⟨⟨h1.snoc hc, by rw [lV_snoc, h2]; exact h3, by simp; omega⟩, fun e => ⟨h1, by rw [e] at h3; simpa using h3, by omega⟩⟩

/-- A row that one limb was appended to, its length by another name. -/
theorem row_snocI {w wr w1 : World} {g cap cp y i : Nat} {A : Option Addr} {o : List Nat} {ob : Obj} (hb : Below w.heap.size w wr) (hO : wr.ownsRow w.heap.size 3 1 (.slice A i cap) i (natV o))
    (hown1 : w1.ownsRow w.heap.size 3 1 (.slice (some ⟨g, 0, none⟩) (i + 1) cp) (i + 1) (natV o ++ [.int .i64 (y : Int)])) (hg : World.grownBy (wr.alloc ob) w1 (Value.ownBlock (.slice A i cap))) :
    RowN w1 w.heap.size (some ⟨g, 0, none⟩) cp (o ++ [y]) ∧ Below w.heap.size w w1 := by
  have hl : o.length = i := by have := hO.1; simpa [natV] using this
  subst hl
  exact row_snoc hb hO hown1 hg

set_option maxHeartbeats 2000000 in
theorem add_core (b1 b2 ca cb : Nat) (A B : Option Addr) (la lb : List Nat) (w : World) (ha : RowN w b1 A ca la) (hb : RowN w b2 B cb lb) (La : Limbs la) (Lb : Limbs lb) (hla : la.length ≤ 1000000) (hlb : lb.length ≤ la.length) :
    Calls Try.prog 45 #[.slice A la.length ca, .slice B lb.length cb] w (RowPost (SumP (lV la + lV lb)) w) := by
  obtain ⟨i0, hi, hz0, hz1, hz2⟩ := info_parts Try.infoI
  have HA := Lib.hid ha
  have HB := Lib.hid hb
  have HLA := Lib.hid La
  have HLB := Lib.hid Lb
  obtain ⟨na, hna⟩ : ∃ n, la.length = n := ⟨_, rfl⟩
  obtain ⟨nb, hnb⟩ : ∃ n, lb.length = n := ⟨_, rfl⟩
  rw [hna, hnb] at hlb
  rw [hna] at hla
  rw [hna, hnb]
  have HNA := Lib.hid hna
  have HNB := Lib.hid hnb
  clear ha hb La Lb hna hnb
  have h1 : ¬ (na : Int) < (nb : Int) := by omega
  have hand := andL
  go_enter Try.func45, Try.ntmps45
  go_wp2_with (at_make; refine wpList_make_own _ rfl _ _ 55 rfl w.heap.size 3 i0 (.int .i64 0) 1 Try.underlying55 hi hz0 hz1 .i64 .i64 _ (na + 1) rfl rfl (by first | rfl | omega) (by rw [hz2]; omega) (by unfold maxLen; omega) (Nat.le_refl _) ?_; intro w0 hown0 hgrow0)
  have hb0 : Below w.heap.size w w0 := (Below.refl _ _).grown hgrow0 (Nat.le_refl _) (fun k hk => by cases hk)
  have HO0 : Hid (RowN w0 w.heap.size (some ⟨w.heap.size, 0, none⟩) (na + 1) []) := hown0
  clear hown0 hgrow0
  go_loopw [5, 6, 7] (fun v cv iv wr => ∃ (i c cap : Nat) (o : List Nat) (R : Option Addr), i ≤ na ∧ c ≤ 1 ∧ iv = .int .i64 i ∧ cv = .int .i64 c ∧ v = .slice R i cap ∧ Hid (AddRel la lb i c o) ∧ Hid (RowN wr w.heap.size R cap o) ∧ Below w.heap.size w wr) (fun _ _ iv _ => na - (intOf iv).toNat)
  case atStart => exact ⟨0, 0, na + 1, [], _, by omega, by omega, rfl, rfl, rfl, ⟨Limbs.nil, rfl, by simp [lV]⟩, HO0, hb0⟩
  case round =>
    clear HO0 hb0
    obtain ⟨i, c, cap, o, R, hin, hc1, rfl, rfl, rfl, hR, hO, hb⟩ := hrel
    have hbs := hb.size
    have hol : o.length = i := hR.out.2.1
    by_cases hlt : i < na
    · have hia : i < la.length := by rw [HNA.out]; exact hlt
      have hlt' : (i : Int) < (na : Int) := by omega
      obtain ⟨ga, rfl, _, _, c1, _⟩ := (HA.out.below hb).at_ hia
      have hxa := HLA.out.get hia
      have hO2 : Hid (wr.ownsRow w.heap.size 3 1 (.slice R i cap) i (natV o)) := by
        have h := hO.out
        unfold RowN at h
        rw [hol] at h
        exact h
      have hbd : (i : Int) ≤ 1000000 := by omega
      by_cases hlb2 : i < nb
      · have hib : i < lb.length := by rw [HNB.out]; exact hlb2
        have hlb2' : (i : Int) < (nb : Int) := by omega
        obtain ⟨gb, rfl, _, _, c2, _⟩ := (HB.out.below hb).at_ hib
        have hxb := HLB.out.get hib
        have N := hR.out.next (n := la[i] + lb[i] + c) (by rw [getD_eq hia, getD_eq hib])
        obtain ⟨n, hn⟩ : ∃ n, la[i] + lb[i] + c = n := ⟨_, rfl⟩
        rw [hn] at N
        obtain ⟨y, hy⟩ : ∃ y, n % 16777216 = y := ⟨_, rfl⟩
        obtain ⟨z, hz⟩ : ∃ z, n / 16777216 = z := ⟨_, rfl⟩
        rw [hy, hz] at N
        have HN := Lib.hid N
        have hz2' : z ≤ 1 := by omega
        have g1 : (la[i] : Int) + (c : Int) + (lb[i] : Int) = (n : Int) := by omega
        have g2 : (n : Int) % 16777216 = (y : Int) := by omega
        have g3 : (n : Int) / 16777216 = (z : Int) := by omega
        clear N hn hy hz
        go_wp2_with (at_builtin; refine wpList_append_lies _ rfl (.tmp 43) (.tmp 46) _ rfl w.heap.size 3 i0 (.int .i64 0) 1 8 Try.underlying55 hi hz0 hz1 hz2 rfl (by omega) _ i _ rfl (World.ownsRow.alloc hO2.out _) ⟨wr.heap.size, 0, none⟩ 1 1 [.int .i64 (y : Int)] rfl rfl (World.news_of_block (cs := #[.int .i64 (y : Int)]) (t := 3) (fr := (0, 0)) (heap_alloc_new wr _)) (by simp [Value.oneCell']) (by omega) (by unfold maxLen; omega) (by omega) (by simp; omega) _ rfl ?_)
        intro g cp w1 hown1 hgrow hat hlt1
        have Rr := Lib.hid (row_snocI hb hO2.out hown1 hgrow)
        clear hown1 hgrow hat hlt1 hO hO2
        go_wp2
        go_roundw
        case rel => exact ⟨i + 1, z, cp, o ++ [y], _, by omega, by omega, by go_num, rfl, rfl, HN, Rr.out.1, Rr.out.2⟩
        case measure => simp [intOf]; omega
      · have hlb2' : ¬ (i : Int) < (nb : Int) := by omega
        have N := hR.out.next (n := la[i] + c) (by rw [getD_eq hia, List.getD_eq_getElem?_getD, List.getElem?_eq_none (by rw [HNB.out]; omega)]; simp)
        obtain ⟨n, hn⟩ : ∃ n, la[i] + c = n := ⟨_, rfl⟩
        rw [hn] at N
        obtain ⟨y, hy⟩ : ∃ y, n % 16777216 = y := ⟨_, rfl⟩
        obtain ⟨z, hz⟩ : ∃ z, n / 16777216 = z := ⟨_, rfl⟩
        rw [hy, hz] at N
        have HN := Lib.hid N
        have hz2' : z ≤ 1 := by omega
        have g1 : (la[i] : Int) + (c : Int) = (n : Int) := by omega
        have g2 : (n : Int) % 16777216 = (y : Int) := by omega
        have g3 : (n : Int) / 16777216 = (z : Int) := by omega
        clear N hn hy hz
        go_wp2_with (at_builtin; refine wpList_append_lies _ rfl (.tmp 43) (.tmp 46) _ rfl w.heap.size 3 i0 (.int .i64 0) 1 8 Try.underlying55 hi hz0 hz1 hz2 rfl (by omega) _ i _ rfl (World.ownsRow.alloc hO2.out _) ⟨wr.heap.size, 0, none⟩ 1 1 [.int .i64 (y : Int)] rfl rfl (World.news_of_block (cs := #[.int .i64 (y : Int)]) (t := 3) (fr := (0, 0)) (heap_alloc_new wr _)) (by simp [Value.oneCell']) (by omega) (by unfold maxLen; omega) (by omega) (by simp; omega) _ rfl ?_)
        intro g cp w1 hown1 hgrow hat hlt1
        have Rr := Lib.hid (row_snocI hb hO2.out hown1 hgrow)
        clear hown1 hgrow hat hlt1 hO hO2
        go_wp2
        go_roundw
        case rel => exact ⟨i + 1, z, cp, o ++ [y], _, by omega, by omega, by go_num, rfl, rfl, HN, Rr.out.1, Rr.out.2⟩
        case measure => simp [intOf]; omega
    · obtain rfl : i = na := by omega
      have hlt' : ¬ (i : Int) < (i : Int) := by omega
      have hR2 := hR.out
      rw [← HNA.out] at hR2
      have F := hR2.done (by rw [HNA.out, HNB.out]; exact hlb) (by rw [HNA.out]; exact hla) (by omega)
      have F1 := Lib.hid F.1
      have F2 := Lib.hid F.2
      have hO2 : Hid (wr.ownsRow w.heap.size 3 1 (.slice R i cap) i (natV o)) := by
        have h := hO.out
        unfold RowN at h
        rw [hol] at h
        exact h
      clear F hR2
      by_cases hc0 : c = 0
      · subst hc0
        have Z : RowPost (SumP (lV la + lV lb)) w (.returned (.slice R i cap)) wr := ⟨R, cap, o, by rw [hol], F2.out rfl, hO.out, hb⟩
        have HZ := Lib.hid Z
        clear Z
        go_wp2
        go_ret
        exact HZ.out
      · have hc0' : (0 : Int) < (c : Int) := by omega
        go_wp2_with (at_builtin; refine wpList_append_lies _ rfl (.tmp 52) (.tmp 54) _ rfl w.heap.size 3 i0 (.int .i64 0) 1 8 Try.underlying55 hi hz0 hz1 hz2 rfl (by omega) _ i _ rfl (World.ownsRow.alloc hO2.out _) ⟨wr.heap.size, 0, none⟩ 1 1 [.int .i64 (c : Int)] rfl rfl (World.news_of_block (cs := #[.int .i64 (c : Int)]) (t := 3) (fr := (0, 0)) (heap_alloc_new wr _)) (by simp [Value.oneCell']) (by omega) (by unfold maxLen; omega) (by omega) (by simp; omega) _ rfl ?_)
        intro g cp w1 hown1 hgrow hat hlt1
        have Rr := row_snocI hb hO2.out hown1 hgrow
        have Z : RowPost (SumP (lV la + lV lb)) w (.returned (.slice (some ⟨g, 0, none⟩) (i + 1) cp)) w1 := ⟨_, cp, o ++ [c], by rw [List.length_append, hol]; rfl, F1.out, Rr.1, Rr.2⟩
        have HZ := Lib.hid Z
        clear hown1 hgrow hat hlt1 hO hO2 Rr Z
        go_wp2
        go_ret
        exact HZ.out
end Go.Proofs.Ytkpcocdflcpnoaa

/-
  The contract of spec.l02Left.
-/
import Derived.Test.YtkpcocdflcpnoaaNInt
namespace Go.Proofs.Ytkpcocdflcpnoaa
open Go.RowKit

/-- What the loop of l02Left holds behind i limbs. -/
def LeftRel (la : List Nat) (s i c : Nat) (o : List Nat) : Prop := Limbs o ∧ o.length = i ∧ lV o + 16777216 ^ i * c = 2 ^ s * lV (la.take i)
theorem LeftRel.next {la o : List Nat} {s i c n : Nat} (h : LeftRel la s i c o) (hn : n = 2 ^ s * la.getD i 0 + c) : LeftRel la s (i + 1) (n / 16777216) (o ++ [n % 16777216]) := by
  obtain ⟨h1, h2, h3⟩ := h
  refine ⟨h1.snoc (by omega), by simp [h2], ?_⟩
  rw [lV_snoc, h2, lV_take_succ, Nat.pow_succ, Nat.mul_assoc]
  have e : 16777216 ^ i * (n % 16777216) + 16777216 ^ i * (16777216 * (n / 16777216)) = 16777216 ^ i * n := by
    rw [← Nat.mul_add]; congr 1; omega
  rw [hn, Nat.mul_add] at e
  rw [hn] at *
  rw [Nat.mul_add]
  have e2 : 16777216 ^ i * (2 ^ s * la.getD i 0) = 2 ^ s * (16777216 ^ i * la.getD i 0) := by rw [Nat.mul_left_comm]
  omega
theorem left_carry {s a c : Nat} (ha : a < 16777216) (hc : c < 2 ^ s) : (2 ^ s * a + c) / 16777216 < 2 ^ s := by
  rw [Nat.div_lt_iff_lt_mul (by omega)]
  have := Nat.mul_le_mul_left (2 ^ s) (show a + 1 ≤ 16777216 from ha)
  rw [Nat.mul_add] at this
  omega
def LeftP (la : List Nat) (s : Nat) (l : List Nat) : Prop := Limbs l ∧ l.length = la.length + 1 ∧ lV l = 2 ^ s * lV la
theorem LeftRel.done {la o : List Nat} {s c : Nat} (h : LeftRel la s la.length c o) (hc : c < 16777216) : LeftP la s (o ++ [c]) := by
  obtain ⟨h1, h2, h3⟩ := h
  rw [List.take_of_length_le (Nat.le_refl _)] at h3
  exact ⟨h1.snoc hc, by simp [h2], by rw [lV_snoc, h2]; exact h3⟩
theorem pow_le23 {s : Nat} (h : s ≤ 23) : 2 ^ s ≤ 8388608 := Nat.pow_le_pow_right (n := 2) (by omega) h

set_option maxHeartbeats 2000000 in
theorem left_any (b1 ca s : Nat) (A : Option Addr) (la : List Nat) (w : World) (ha : RowN w b1 A ca la) (La : Limbs la) (hla : la.length ≤ 500000) (hs : s ≤ 23) :
    Calls Try.prog 66 #[.slice A la.length ca, .int .u64 (s : Int)] w (RowPost (LeftP la s) w) := by
  obtain ⟨i0, hi, hz0, hz1, hz2⟩ := info_parts Try.infoI
  have HA := Lib.hid ha
  have HLA := Lib.hid La
  obtain ⟨na, hna⟩ : ∃ n, la.length = n := ⟨_, rfl⟩
  rw [hna] at hla
  rw [hna]
  have HNA := Lib.hid hna
  clear ha La hna
  have hand := andL
  have hp23 := pow_le23 hs
  obtain ⟨P, hP⟩ : ∃ P, 2 ^ s = P := ⟨_, rfl⟩
  have hPi : ((2 : Int) ^ s) = (P : Int) := by rw [← hP]; simp
  rw [hP] at hp23
  have HP := Lib.hid hP
  have hP0 : 0 < P := by rw [← hP]; exact Nat.pow_pos (by omega)
  clear hP
  go_enter Try.func66, Try.ntmps66
  go_wp2_with (at_make; refine wpList_make_own _ rfl _ _ 55 rfl w.heap.size 3 i0 (.int .i64 0) 1 Try.underlying55 hi hz0 hz1 .i64 .i64 _ (na + 1) rfl rfl (by first | rfl | omega) (by rw [hz2]; omega) (by unfold maxLen; omega) (Nat.le_refl _) ?_; intro w0 hown0 hgrow0)
  have hb0 : Below w.heap.size w w0 := (Below.refl _ _).grown hgrow0 (Nat.le_refl _) (fun k hk => by cases hk)
  have HO0 : Hid (RowN w0 w.heap.size (some ⟨w.heap.size, 0, none⟩) (na + 1) []) := hown0
  clear hown0 hgrow0
  go_loopw [5, 6, 7] (fun v cv iv wr => ∃ (i c cap : Nat) (o : List Nat) (R : Option Addr), i ≤ na ∧ c < P ∧ iv = .int .i64 i ∧ cv = .int .i64 c ∧ v = .slice R i cap ∧ Hid (LeftRel la s i c o) ∧ Hid (RowN wr w.heap.size R cap o) ∧ Below w.heap.size w wr) (fun _ _ iv _ => na - (intOf iv).toNat)
  case atStart => exact ⟨0, 0, na + 1, [], _, by omega, by omega, rfl, rfl, rfl, ⟨Limbs.nil, rfl, by simp [lV]⟩, HO0, hb0⟩
  case round =>
    clear HO0 hb0
    obtain ⟨i, c, cap, o, R, hin, hc1, rfl, rfl, rfl, hR, hO, hb⟩ := hrel
    have hbs := hb.size
    have hol : o.length = i := hR.out.2.1
    have hO2 : Hid (wr.ownsRow w.heap.size 3 1 (.slice R i cap) i (natV o)) := by
      have h := hO.out
      unfold RowN at h
      rw [hol] at h
      exact h
    by_cases hlt : i < na
    · have hia : i < la.length := by rw [HNA.out]; exact hlt
      have hlt' : (i : Int) < (na : Int) := by omega
      obtain ⟨ga, rfl, _, _, c1, _⟩ := (HA.out.below hb).at_ hia
      have hxa := HLA.out.get hia
      have N := hR.out.next (n := 2 ^ s * la[i] + c) (by rw [getD_eq hia])
      have hcar := left_carry (s := s) (c := c) hxa (by rw [HP.out]; exact hc1)
      rw [HP.out] at N hcar
      have hmul : P * la[i] ≤ 8388608 * 16777215 := Nat.mul_le_mul hp23 (by omega)
      have hor := orL s la[i] c (by rw [HP.out]; exact hc1) (by rw [HP.out]; omega)
      rw [HP.out] at hor
      obtain ⟨p, hp⟩ : ∃ p, P * la[i] = p := ⟨_, rfl⟩
      rw [hp] at hor hmul hcar N
      have hpi : (la[i] : Int) * (P : Int) = (p : Int) := by rw [← hp]; simp [Int.mul_comm]
      obtain ⟨n, hn⟩ : ∃ n, p + c = n := ⟨_, rfl⟩
      rw [hn] at N hcar hor
      obtain ⟨y, hy⟩ : ∃ y, n % 16777216 = y := ⟨_, rfl⟩
      obtain ⟨z, hz⟩ : ∃ z, n / 16777216 = z := ⟨_, rfl⟩
      rw [hy, hz] at N
      rw [hz] at hcar
      have HN := Lib.hid N
      have g2 : (n : Int) % 16777216 = (y : Int) := by omega
      have g3 : (n : Int) / 16777216 = (z : Int) := by omega
      have hs24 : s < 24 := by omega
      clear N hn hy hz hp
      go_wp2_with (at_builtin; refine wpList_append_lies _ rfl (.tmp 27) (.tmp 30) _ rfl w.heap.size 3 i0 (.int .i64 0) 1 8 Try.underlying55 hi hz0 hz1 hz2 rfl (by omega) _ i _ rfl (World.ownsRow.alloc hO2.out _) ⟨wr.heap.size, 0, none⟩ 1 1 [.int .i64 (y : Int)] rfl rfl (World.news_of_block (cs := #[.int .i64 (y : Int)]) (t := 3) (fr := (0, 0)) (heap_alloc_new wr _)) (by simp [Value.oneCell']) (by omega) (by unfold maxLen; omega) (by omega) (by simp; omega) _ rfl ?_)
      intro g cp w1 hown1 hgrow hat hlt1
      have Rr := Lib.hid (row_snocI hb hO2.out hown1 hgrow)
      clear hown1 hgrow hat hlt1 hO hO2
      go_wp2
      go_roundw
      case rel => exact ⟨i + 1, z, cp, o ++ [y], _, by omega, by omega, by go_num, rfl, rfl, HN, Rr.out.1, Rr.out.2⟩
      case measure => simp [intOf]; omega
    · obtain rfl : i = na := by omega
      have hlt' : ¬ (i : Int) < (i : Int) := by omega
      have hR2 := hR.out
      rw [← HNA.out] at hR2
      have F := Lib.hid (hR2.done (by omega))
      clear hR2
      go_wp2_with (at_builtin; refine wpList_append_lies _ rfl (.tmp 34) (.tmp 36) _ rfl w.heap.size 3 i0 (.int .i64 0) 1 8 Try.underlying55 hi hz0 hz1 hz2 rfl (by omega) _ i _ rfl (World.ownsRow.alloc hO2.out _) ⟨wr.heap.size, 0, none⟩ 1 1 [.int .i64 (c : Int)] rfl rfl (World.news_of_block (cs := #[.int .i64 (c : Int)]) (t := 3) (fr := (0, 0)) (heap_alloc_new wr _)) (by simp [Value.oneCell']) (by omega) (by unfold maxLen; omega) (by omega) (by simp; omega) _ rfl ?_)
      intro g cp w1 hown1 hgrow hat hlt1
      have Rr := row_snocI hb hO2.out hown1 hgrow
      have Z : RowPost (LeftP la s) w (.returned (.slice (some ⟨g, 0, none⟩) (i + 1) cp)) w1 := ⟨_, cp, o ++ [c], by rw [List.length_append, hol]; rfl, F.out, Rr.1, Rr.2⟩
      have HZ := Lib.hid Z
      clear hown1 hgrow hat hlt1 hO hO2 Rr Z
      go_wp2
      go_ret
      exact HZ.out
end Go.Proofs.Ytkpcocdflcpnoaa

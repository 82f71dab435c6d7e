import Derived.Test.YtdajgcgliidjbaaGreatNBase
import Derived.Deep.QuietTactic
import Derived.BigQuiet
set_option maxRecDepth 8000
set_option maxHeartbeats 4000000
namespace Go.Proofs.YtdajgcgliidjbaaGreat
open Go.RowKit
theorem lV_take_succ (l : List Nat) (k : Nat) : lV (l.take (k + 1)) = lV (l.take k) + 16777216 ^ k * l.getD k 0 := by
 by_cases h : k < l.length
 ·rw [take_snocN l h, lV_snoc, List.length_take, Nat.min_eq_left (by omega), List.getD_eq_getElem?_getD, List.getElem?_eq_getElem h]; rfl
 ·rw [List.take_of_length_le (by omega), List.take_of_length_le (by omega), List.getD_eq_getElem?_getD, List.getElem?_eq_none (by omega)]; simp
theorem lV_split (l : List Nat) (k : Nat) : lV l = lV (l.take k) + 16777216 ^ (min k l.length) * lV (l.drop k) := by
 conv => lhs; rw [← List.take_append_drop k l]
 rw [lV_append, List.length_take]
theorem getD_lt {l : List Nat} (h : Limbs l) (k : Nat) : l.getD k 0 < 16777216 := by
 rw [List.getD_eq_getElem?_getD]
 by_cases hk : k < l.length
 ·rw [List.getElem?_eq_getElem hk]; exact h.get hk
 ·rw [List.getElem?_eq_none (by omega)]; simp
theorem getD_eq {l : List Nat} {k : Nat} (h : k < l.length) : l.getD k 0 = l[k] := by rw [List.getD_eq_getElem?_getD, List.getElem?_eq_getElem h]; rfl
theorem andL (n : Int) : bits .and .i64 n 16777215 = n % 16777216 := by
 have h255 : (BitVec.ofInt 64 16777215).toNat = 2 ^ 24 - 1 := by decide
 have key : (BitVec.ofInt 64 n &&& BitVec.ofInt 64 16777215).toNat = (n % ((2 ^ 64 : Nat) : Int)).toNat % 2 ^ 24 := by
  rw [BitVec.toNat_and, BitVec.toNat_ofInt, h255, Nat.and_two_pow_sub_one_eq_mod]
 show IntKind.i64.wrap ((BitVec.ofInt 64 n &&& BitVec.ofInt 64 16777215).toNat : Nat) = n % 16777216
 rw [key, IntKind.wrap_i64]
 omega
def cmpI (a b : Nat) : Int := if a < b then -1 else if a = b then 0 else 1
theorem less_at {la lb : List Nat} {k : Nat} (ha : Limbs la) (hl : la.length = lb.length) (hk : k < la.length) (hd : la.drop (k + 1) = lb.drop (k + 1)) (hlt : la[k] < lb[k]'(by omega)) : lV la < lV lb := by
 rw [lV_split la (k + 1), lV_split lb (k + 1), hd, hl, lV_take_succ, lV_take_succ, getD_eq hk, getD_eq (by omega : k < lb.length)]
 have h1 := lV_lt (ha.take k)
 rw [List.length_take, Nat.min_eq_left (by omega)] at h1
 have h2 : 16777216 ^ k * (la[k] + 1) ≤ 16777216 ^ k * lb[k]'(by omega) := Nat.mul_le_mul_left _ hlt
 rw [Nat.mul_add] at h2
 omega
theorem less_len {la lb : List Nat} (ha : Limbs la) (tb : Trimmed lb) (h : la.length < lb.length) : lV la < lV lb := by
 have h1 := lV_lt ha
 have hne : lb ≠ [] := by intro e; rw [e] at h; simp at h
 have h2 := tb.ge hne
 have : 16777216 ^ la.length ≤ 16777216 ^ (lb.length - 1) := Nat.pow_le_pow_right (by omega) (by omega)
 omega
def CmpPost (r : Int) (w : World) (e : Ending) (w' : World) : Prop := e = .returned (.int .i64 r) ∧ Below w.heap.size w w'
theorem bd {B : Nat} {w x : World} (h : Below B w x) (k : Nat) : Below B w (x.drewN k) := ⟨h.os, h.tape, h.output, h.size, h.block⟩
theorem cmp_any (b1 b2 ca cb : Nat) (A B : Option Addr) (la lb : List Nat) (w : World) (ha : RowN w b1 A ca la) (hb : RowN w b2 B cb lb) (La : Limbs la) (Lb : Limbs lb) (ta : Trimmed la) (tb : Trimmed lb) (hla : la.length ≤ 1000000) :
  Calls Tryz.prog 100 #[.slice A la.length ca, .slice B lb.length cb] w (CmpPost (cmpI (lV la) (lV lb)) w) := by
 rcases Nat.lt_trichotomy la.length lb.length with h | h | h
 ·have E : cmpI (lV la) (lV lb) = -1 := by unfold cmpI; rw [if_pos (less_len La tb h)]
  rw [E]
  have h1 : ((la.length : Int) != (lb.length : Int)) = true := by simp; omega
  have h2 : (la.length : Int) < (lb.length : Int) := by omega
  clear E
  generalize la.length = na at *
  generalize lb.length = nb at *
  go_enter Tryz.func100, Tryz.ntmps100
  go_wp2
  go_ret
  exact ⟨rfl, Below.refl _ _⟩
 ·obtain ⟨n, hn⟩ : ∃ n, la.length = n := ⟨_, rfl⟩
  have HA := Lib.hid ha
  have HB := Lib.hid hb
  have hn2 : lb.length = n := by omega
  rw [hn, hn2]
  have HN := Lib.hid hn
  have HN2 := Lib.hid hn2
  have hn3 : n ≤ 1000000 := by omega
  clear ha hb hn hn2 h hla
  have h1 : ((n : Int) != (n : Int)) = false := by simp
  go_enter Tryz.func100, Tryz.ntmps100
  go_wp2
  go_loopw [5] (fun iv wr => ∃ (i : Nat), i ≤ n ∧ iv = .int .i64 ((i : Int) - 1) ∧ Hid (la.drop i = lb.drop i) ∧ Below w.heap.size w wr) (fun iv _ => (intOf iv + 1).toNat)
  case atStart => exact ⟨n, Nat.le_refl _, by go_num, by show _ = _; rw [List.drop_of_length_le (by rw [HN.out]; omega), List.drop_of_length_le (by rw [HN2.out]; omega)], Below.refl _ _⟩
  case round =>
   obtain ⟨i, hi, rfl, hD, hbw⟩ := hrel
   by_cases h0 : 0 < i
   ·obtain ⟨j, rfl⟩ : ∃ j, i = j + 1 := ⟨i - 1, by omega⟩
    have hja : j < la.length := by rw [HN.out]; omega
    have hjb : j < lb.length := by rw [HN2.out]; omega
    obtain ⟨g1, rfl, _, _, c1, _⟩ := (HA.out.below hbw).at_ hja
    obtain ⟨g2, rfl, _, _, c2, _⟩ := (HB.out.below hbw).at_ hjb
    have hji : (((j + 1 : Nat) : Int) - 1) = (j : Int) := by omega
    have hj0 : (0 : Int) ≤ (j : Int) := by omega
    have hjn : (j : Int) < (n : Int) := by omega
    rw [hji]
    rcases Nat.lt_trichotomy la[j] lb[j] with hc | hc | hc
    ·have E : Hid (cmpI (lV la) (lV lb) = -1) := by show _ = _; unfold cmpI; rw [if_pos (less_at La (by rw [HN.out, HN2.out]) hja hD.out hc)]
     have q1 : ((la[j] : Int) != (lb[j] : Int)) = true := by simp; omega
     have q2 : decide ((la[j] : Int) < (lb[j] : Int)) = true := by simp; omega
     have q3 : (la[j] : Int) < (lb[j] : Int) := by omega
     generalize la[j] = xa at *
     generalize lb[j] = xb at *
     go_wp2
     go_quiet (fail)
     go_wp2
     go_quiet (fail)
     go_wp2
     go_ret
     exact ⟨by rw [E.out]; rfl, bd (bd hbw _) _⟩
    ·have hD2 : Hid (la.drop j = lb.drop j) := by show _ = _; rw [List.drop_eq_getElem_cons hja, List.drop_eq_getElem_cons hjb, hD.out, hc]
     have q1 : ((la[j] : Int) != (lb[j] : Int)) = false := by simp; omega
     clear hc
     generalize la[j] = xa at *
     generalize lb[j] = xb at *
     go_wp2
     go_quiet (fail)
     go_wp2
     go_roundw
     case rel => exact ⟨j, by omega, by go_num, hD2, bd hbw _⟩
     case measure => simp [intOf]
    ·have E : Hid (cmpI (lV la) (lV lb) = 1) := by
      have := less_at Lb (by rw [HN.out, HN2.out]) hjb hD.out.symm hc
      show _ = _; unfold cmpI; rw [if_neg (by omega), if_neg (by omega)]
     have q1 : ((la[j] : Int) != (lb[j] : Int)) = true := by simp; omega
     have q2 : decide ((la[j] : Int) < (lb[j] : Int)) = false := by simp; omega
     have q3 : ¬ (la[j] : Int) < (lb[j] : Int) := by omega
     generalize la[j] = xa at *
     generalize lb[j] = xb at *
     go_wp2
     go_quiet (fail)
     go_wp2
     go_quiet (fail)
     go_wp2
     go_ret
     exact ⟨by rw [E.out]; rfl, bd (bd hbw _) _⟩
   ·obtain rfl : i = 0 := by omega
    have E : Hid (cmpI (lV la) (lV lb) = 0) := by
     have := hD.out
     simp only [List.drop_zero] at this
     show _ = _; rw [this]; unfold cmpI; simp
    have h0' : ¬ (0 : Int) ≤ ((0 : Nat) : Int) - 1 := by omega
    go_wp2
    go_ret
    exact ⟨by rw [E.out]; rfl, hbw⟩
 ·have E : cmpI (lV la) (lV lb) = 1 := by
   have := less_len Lb ta h
   unfold cmpI; rw [if_neg (by omega), if_neg (by omega)]
  rw [E]
  have h1 : ((la.length : Int) != (lb.length : Int)) = true := by simp; omega
  have h2 : ¬ (la.length : Int) < (lb.length : Int) := by omega
  clear E
  generalize la.length = na at *
  generalize lb.length = nb at *
  go_enter Tryz.func100, Tryz.ntmps100
  go_wp2
  go_ret
  exact ⟨rfl, Below.refl _ _⟩
end Go.Proofs.YtdajgcgliidjbaaGreat
namespace Go.Proofs.YtdajgcgliidjbaaGreat
open Go.RowKit
def SumP (n : Nat) (l : List Nat) : Prop := Limbs l ∧ lV l = n ∧ l.length ≤ 1000001
def AddP (n m : Nat) (l : List Nat) : Prop := SumP n l ∧ (Trimmed l ∨ l.length = m)
theorem AddP.trim {n m : Nat} {l : List Nat} (h : AddP n m l) (hn : m = 0 ∨ 16777216 ^ (m - 1) ≤ n) : InP n l := by
 obtain ⟨⟨h1, h2, _⟩, h3⟩ := h
 refine ⟨h1, ?_, h2⟩
 rcases h3 with h | h
 ·exact h
 ·cases hl : l.getLast? with
  | none => exact .inl (List.getLast?_eq_none_iff.1 hl)
  | some x =>
   obtain ⟨r, rfl⟩ := List.getLast?_eq_some_iff.1 hl
   refine .inr ⟨r, x, rfl, ?_⟩
   rcases Nat.eq_zero_or_pos x with e | e
   ·exfalso
    subst e
    rw [List.length_append, List.length_singleton] at h
    rw [lV_snoc, Nat.mul_zero, Nat.add_zero] at h2
    have := lV_lt (l := r) (fun y hy => h1 y (by simp [hy]))
    rcases hn with hn | hn
    ·omega
    ·rw [show m - 1 = r.length from by omega] at hn
     omega
   ·exact e
def AddRel (la lb : List Nat) (i c : Nat) (o : List Nat) : Prop := Limbs o ∧ o.length = i ∧ lV o + 16777216 ^ i * c = lV (la.take i) + lV (lb.take i)
theorem AddRel.next {la lb o : List Nat} {i c : Nat} (h : AddRel la lb i c o) {n : Nat} (hn : n = la.getD i 0 + lb.getD i 0 + c) : AddRel la lb (i + 1) (n / 16777216) (o ++ [n % 16777216]) := by
 obtain ⟨h1, h2, h3⟩ := h
 refine ⟨h1.snoc (by omega), by simp [h2], ?_⟩
 rw [lV_snoc, h2, lV_take_succ, lV_take_succ, Nat.pow_succ, Nat.mul_assoc]
 have e : 16777216 ^ i * (n % 16777216) + 16777216 ^ i * (16777216 * (n / 16777216)) = 16777216 ^ i * n := by
  rw [← Nat.mul_add]; congr 1; omega
 rw [hn, Nat.mul_add, Nat.mul_add] at e
 rw [hn] at *
 omega
theorem AddRel.done {la lb o : List Nat} {c : Nat} (h : AddRel la lb la.length c o) (hl : lb.length ≤ la.length) (hla : la.length ≤ 1000000) (hc : c < 16777216) : SumP (lV la + lV lb) (o ++ [c]) ∧ (c = 0 → SumP (lV la + lV lb) o) := by
 obtain ⟨h1, h2, h3⟩ := h
 rw [List.take_of_length_le (Nat.le_refl _), List.take_of_length_le hl] at h3
 refine ⟨⟨h1.snoc hc, by rw [lV_snoc, h2]; exact h3, by simp; omega⟩, fun e => ⟨h1, by rw [e] at h3; simpa using h3, by omega⟩⟩
theorem row_snocI {w wr w1 : World} {g cap cp y i : Nat} {A : Option Addr} {o : List Nat} {ob : Obj} (hb : Below w.heap.size w wr) (hO : wr.ownsRow w.heap.size 3 1 (.slice A i cap) i (natV o))
  (hown1 : w1.ownsRow w.heap.size 3 1 (.slice (some ⟨g, 0, none⟩) (i + 1) cp) (i + 1) (natV o ++ [.int .i64 (y : Int)])) (hg : World.grownBy (wr.alloc ob) w1 (Value.ownBlock (.slice A i cap))) :
  RowN w1 w.heap.size (some ⟨g, 0, none⟩) cp (o ++ [y]) ∧ Below w.heap.size w w1 := by
 have hl : o.length = i := by have := hO.1; simpa [natV] using this
 subst hl
 exact row_snoc hb hO hown1 hg
theorem add_core (b1 b2 ca cb : Nat) (A B : Option Addr) (la lb : List Nat) (w : World) (ha : RowN w b1 A ca la) (hb : RowN w b2 B cb lb) (La : Limbs la) (Lb : Limbs lb) (hla : la.length ≤ 1000000) (hlb : lb.length ≤ la.length) :
  Calls Tryz.prog 143 #[.slice A la.length ca, .slice B lb.length cb] w (RowPost (AddP (lV la + lV lb) la.length) w) := by
 obtain ⟨i0, hi, hz0, hz1, hz2⟩ := info_parts Tryz.infoI
 have HA := Lib.hid ha
 have HB := Lib.hid hb
 have HLA := Lib.hid La
 have HLB := Lib.hid Lb
 obtain ⟨na, hna⟩ : ∃ n, la.length = n := ⟨_, rfl⟩
 obtain ⟨nb, hnb⟩ : ∃ n, lb.length = n := ⟨_, rfl⟩
 rw [hna, hnb] at hlb
 rw [hna] at hla
 rw [hna, hnb]
 have HNA := Lib.hid hna
 have HNB := Lib.hid hnb
 clear ha hb La Lb hna hnb
 have h1 : ¬ (na : Int) < (nb : Int) := by omega
 have hand := andL
 go_enter Tryz.func143, Tryz.ntmps143
 go_wp2_with (at_make; refine wpList_make_own _ rfl _ _ 57 rfl w.heap.size 3 i0 (.int .i64 0) 1 Tryz.underlying57 hi hz0 hz1 .i64 .i64 _ (na + 1) rfl rfl (by first | rfl | omega) (by rw [hz2]; omega) (by unfold maxLen; omega) (Nat.le_refl _) ?_; intro w0 hown0 hgrow0)
 have hb0 : Below w.heap.size w w0 := (Below.refl _ _).grown hgrow0 (Nat.le_refl _) (fun k hk => by cases hk)
 have HO0 : Hid (RowN w0 w.heap.size (some ⟨w.heap.size, 0, none⟩) (na + 1) []) := hown0
 clear hown0 hgrow0
 go_loopw [5, 6, 7] (fun v cv iv wr => ∃ (i c cap : Nat) (o : List Nat) (R : Option Addr), i ≤ na ∧ c ≤ 1 ∧ iv = .int .i64 i ∧ cv = .int .i64 c ∧ v = .slice R i cap ∧ Hid (AddRel la lb i c o) ∧ Hid (RowN wr w.heap.size R cap o) ∧ Below w.heap.size w wr) (fun _ _ iv _ => na - (intOf iv).toNat)
 case atStart => exact ⟨0, 0, na + 1, [], _, by omega, by omega, rfl, rfl, rfl, ⟨Limbs.nil, rfl, by simp [lV]⟩, HO0, hb0⟩
 case round =>
  clear HO0 hb0
  obtain ⟨i, c, cap, o, R, hin, hc1, rfl, rfl, rfl, hR, hO, hb⟩ := hrel
  have hbs := hb.size
  have hol : o.length = i := hR.out.2.1
  by_cases hlt : i < na
  ·have hia : i < la.length := by rw [HNA.out]; exact hlt
   have hlt' : (i : Int) < (na : Int) := by omega
   obtain ⟨ga, rfl, _, _, c1, _⟩ := (HA.out.below hb).at_ hia
   have hxa := HLA.out.get hia
   have hO2 : Hid (wr.ownsRow w.heap.size 3 1 (.slice R i cap) i (natV o)) := by
    have h := hO.out
    unfold RowN at h
    rw [hol] at h
    exact h
   have hbd : (i : Int) ≤ 1000000 := by omega
   by_cases hlb2 : i < nb
   ·have hib : i < lb.length := by rw [HNB.out]; exact hlb2
    have hlb2' : (i : Int) < (nb : Int) := by omega
    obtain ⟨gb, rfl, _, _, c2, _⟩ := (HB.out.below hb).at_ hib
    have hxb := HLB.out.get hib
    have N := hR.out.next (n := la[i] + lb[i] + c) (by rw [getD_eq hia, getD_eq hib])
    obtain ⟨n, hn⟩ : ∃ n, la[i] + lb[i] + c = n := ⟨_, rfl⟩
    rw [hn] at N
    obtain ⟨y, hy⟩ : ∃ y, n % 16777216 = y := ⟨_, rfl⟩
    obtain ⟨z, hz⟩ : ∃ z, n / 16777216 = z := ⟨_, rfl⟩
    rw [hy, hz] at N
    have HN := Lib.hid N
    have hz2' : z ≤ 1 := by omega
    have g1 : (la[i] : Int) + (c : Int) + (lb[i] : Int) = (n : Int) := by omega
    have g2 : (n : Int) % 16777216 = (y : Int) := by omega
    have g3 : (n : Int) / 16777216 = (z : Int) := by omega
    clear N hn hy hz
    go_wp2_with (at_builtin; refine wpList_append_lies _ rfl (.tmp 43) (.tmp 46) _ rfl w.heap.size 3 i0 (.int .i64 0) 1 8 Tryz.underlying57 hi hz0 hz1 hz2 rfl (by omega) _ i _ rfl (World.ownsRow.alloc hO2.out _) ⟨wr.heap.size, 0, none⟩ 1 1 [.int .i64 (y : Int)] rfl rfl (World.news_of_block (cs := #[.int .i64 (y : Int)]) (t := 3) (fr := (0, 0)) (heap_alloc_new wr _)) (by simp [Value.oneCell']) (by omega) (by unfold maxLen; omega) (by omega) (by simp; omega) _ rfl ?_)
    intro g cp w1 hown1 hgrow hat hlt1
    have Rr := Lib.hid (row_snocI hb hO2.out hown1 hgrow)
    clear hown1 hgrow hat hlt1 hO hO2
    go_wp2
    go_roundw
    case rel => exact ⟨i + 1, z, cp, o ++ [y], _, by omega, by omega, by go_num, rfl, rfl, HN, Rr.out.1, Rr.out.2⟩
    case measure => simp [intOf]; omega
   ·have hlb2' : ¬ (i : Int) < (nb : Int) := by omega
    have N := hR.out.next (n := la[i] + c) (by rw [getD_eq hia, List.getD_eq_getElem?_getD, List.getElem?_eq_none (by rw [HNB.out]; omega)]; simp)
    obtain ⟨n, hn⟩ : ∃ n, la[i] + c = n := ⟨_, rfl⟩
    rw [hn] at N
    obtain ⟨y, hy⟩ : ∃ y, n % 16777216 = y := ⟨_, rfl⟩
    obtain ⟨z, hz⟩ : ∃ z, n / 16777216 = z := ⟨_, rfl⟩
    rw [hy, hz] at N
    have HN := Lib.hid N
    have hz2' : z ≤ 1 := by omega
    have g1 : (la[i] : Int) + (c : Int) = (n : Int) := by omega
    have g2 : (n : Int) % 16777216 = (y : Int) := by omega
    have g3 : (n : Int) / 16777216 = (z : Int) := by omega
    clear N hn hy hz
    go_wp2_with (at_builtin; refine wpList_append_lies _ rfl (.tmp 43) (.tmp 46) _ rfl w.heap.size 3 i0 (.int .i64 0) 1 8 Tryz.underlying57 hi hz0 hz1 hz2 rfl (by omega) _ i _ rfl (World.ownsRow.alloc hO2.out _) ⟨wr.heap.size, 0, none⟩ 1 1 [.int .i64 (y : Int)] rfl rfl (World.news_of_block (cs := #[.int .i64 (y : Int)]) (t := 3) (fr := (0, 0)) (heap_alloc_new wr _)) (by simp [Value.oneCell']) (by omega) (by unfold maxLen; omega) (by omega) (by simp; omega) _ rfl ?_)
    intro g cp w1 hown1 hgrow hat hlt1
    have Rr := Lib.hid (row_snocI hb hO2.out hown1 hgrow)
    clear hown1 hgrow hat hlt1 hO hO2
    go_wp2
    go_roundw
    case rel => exact ⟨i + 1, z, cp, o ++ [y], _, by omega, by omega, by go_num, rfl, rfl, HN, Rr.out.1, Rr.out.2⟩
    case measure => simp [intOf]; omega
  ·obtain rfl : i = na := by omega
   have hlt' : ¬ (i : Int) < (i : Int) := by omega
   have hR2 := hR.out
   rw [← HNA.out] at hR2
   have F := hR2.done (by rw [HNA.out, HNB.out]; exact hlb) (by rw [HNA.out]; exact hla) (by omega)
   have F1 := Lib.hid F.1
   have F2 := Lib.hid F.2
   have hO2 : Hid (wr.ownsRow w.heap.size 3 1 (.slice R i cap) i (natV o)) := by
    have h := hO.out
    unfold RowN at h
    rw [hol] at h
    exact h
   clear F hR2
   by_cases hc0 : c = 0
   ·subst hc0
    have Z : RowPost (AddP (lV la + lV lb) i) w (.returned (.slice R i cap)) wr := ⟨R, cap, o, by rw [hol], ⟨F2.out rfl, .inr hol⟩, hO.out, hb⟩
    have HZ := Lib.hid Z
    clear Z
    go_wp2
    go_ret
    exact HZ.out
   ·have hc0' : (0 : Int) < (c : Int) := by omega
    go_wp2_with (at_builtin; refine wpList_append_lies _ rfl (.tmp 52) (.tmp 54) _ rfl w.heap.size 3 i0 (.int .i64 0) 1 8 Tryz.underlying57 hi hz0 hz1 hz2 rfl (by omega) _ i _ rfl (World.ownsRow.alloc hO2.out _) ⟨wr.heap.size, 0, none⟩ 1 1 [.int .i64 (c : Int)] rfl rfl (World.news_of_block (cs := #[.int .i64 (c : Int)]) (t := 3) (fr := (0, 0)) (heap_alloc_new wr _)) (by simp [Value.oneCell']) (by omega) (by unfold maxLen; omega) (by omega) (by simp; omega) _ rfl ?_)
    intro g cp w1 hown1 hgrow hat hlt1
    have Rr := row_snocI hb hO2.out hown1 hgrow
    have Z : RowPost (AddP (lV la + lV lb) i) w (.returned (.slice (some ⟨g, 0, none⟩) (i + 1) cp)) w1 := ⟨_, cp, o ++ [c], by rw [List.length_append, hol]; rfl, ⟨F1.out, .inl (.inr ⟨o, c, rfl, by omega⟩)⟩, Rr.1, Rr.2⟩
    have HZ := Lib.hid Z
    clear hown1 hgrow hat hlt1 hO hO2 Rr Z
    go_wp2
    go_ret
    exact HZ.out
end Go.Proofs.YtdajgcgliidjbaaGreat
namespace Go.Proofs.YtdajgcgliidjbaaGreat
open Go.RowKit
theorem add_full (b1 b2 ca cb : Nat) (A B : Option Addr) (la lb : List Nat) (w : World) (ha : RowN w b1 A ca la) (hb : RowN w b2 B cb lb) (La : Limbs la) (Lb : Limbs lb) (hla : la.length ≤ 1000000) (hlb : lb.length ≤ 1000000) :
  Calls Tryz.prog 143 #[.slice A la.length ca, .slice B lb.length cb] w (RowPost (AddP (lV la + lV lb) (max la.length lb.length)) w) := by
 by_cases h : lb.length ≤ la.length
 ·rw [Nat.max_eq_left h]
  exact add_core b1 b2 ca cb A B la lb w ha hb La Lb hla h
 ·have H := Lib.hid (add_core b2 b1 cb ca B A lb la w hb ha Lb La hlb (by omega))
  rw [Nat.max_eq_right (by omega)]
  have h1 : (la.length : Int) < (lb.length : Int) := by omega
  generalize la.length = na at *
  generalize lb.length = nb at *
  clear ha hb La Lb
  go_enter Tryz.func143, Tryz.ntmps143
  go_wp2_with fail
  refine H.out.mono ?_
  rintro e w1 ⟨R, cap, l, rfl, hp, hr, hb⟩
  have Z : RowPost (AddP (lV la + lV lb) nb) w (.returned (.slice R l.length cap)) w1 := ⟨R, cap, l, rfl, by rw [Nat.add_comm (lV la)]; exact hp, hr, hb⟩
  have HZ := Lib.hid Z
  clear Z hp hr hb
  go_wp2
  go_ret
  exact HZ.out
theorem add_trim (b1 b2 ca cb : Nat) (A B : Option Addr) (la lb : List Nat) (w : World) (ha : RowN w b1 A ca la) (hb : RowN w b2 B cb lb) (La : Limbs la) (Lb : Limbs lb) (ta : Trimmed la) (tb : Trimmed lb) (hla : la.length ≤ 1000000) (hlb : lb.length ≤ 1000000) :
  Calls Tryz.prog 143 #[.slice A la.length ca, .slice B lb.length cb] w (RowPost (InP (lV la + lV lb)) w) :=
 (add_full b1 b2 ca cb A B la lb w ha hb La Lb hla hlb).mono fun _ _ ⟨R, cap, l, he, hp, hr, hb⟩ => ⟨R, cap, l, he, hp.trim (by
  rcases Nat.le_total la.length lb.length with h | h
  ·rw [Nat.max_eq_right h]
   by_cases h0 : lb = []
   ·exact .inl (by rw [h0]; rfl)
   ·exact .inr (Nat.le_trans (tb.ge h0) (Nat.le_add_left _ _))
  ·rw [Nat.max_eq_left h]
   by_cases h0 : la = []
   ·exact .inl (by rw [h0]; rfl)
   ·exact .inr (Nat.le_trans (ta.ge h0) (Nat.le_add_right _ _))), hr, hb⟩
def SubRel (la lb : List Nat) (i c : Nat) (o : List Nat) : Prop := Limbs o ∧ o.length = i ∧ lV (la.take i) + 16777216 ^ i * c = lV (lb.take i) + lV o
theorem SubRel.next {la lb o : List Nat} {i c y z : Nat} (h : SubRel la lb i c o) (hy : y < 16777216) (hn : la.getD i 0 + 16777216 * z = lb.getD i 0 + c + y) : SubRel la lb (i + 1) z (o ++ [y]) := by
 obtain ⟨h1, h2, h3⟩ := h
 refine ⟨h1.snoc hy, by simp [h2], ?_⟩
 rw [lV_snoc, h2, lV_take_succ, lV_take_succ, Nat.pow_succ, Nat.mul_assoc]
 have e : 16777216 ^ i * (la.getD i 0 + 16777216 * z) = 16777216 ^ i * (lb.getD i 0 + c + y) := by rw [hn]
 rw [Nat.mul_add, Nat.mul_add, Nat.mul_add] at e
 omega
theorem SubRel.done {la lb o : List Nat} {c : Nat} (h : SubRel la lb la.length c o) (hl : lb.length ≤ la.length) (hla : la.length ≤ 1000000) (hle : lV lb ≤ lV la) : SumP (lV la - lV lb) o := by
 obtain ⟨h1, h2, h3⟩ := h
 rw [List.take_of_length_le (Nat.le_refl _), List.take_of_length_le hl] at h3
 have hlt := lV_lt h1
 rw [h2] at hlt
 have hc : c = 0 := by
  rcases Nat.eq_zero_or_pos c with h | h
  ·exact h
  ·have : 16777216 ^ la.length * 1 ≤ 16777216 ^ la.length * c := Nat.mul_le_mul_left _ h
   omega
 subst hc
 exact ⟨h1, by simp at h3; omega, by omega⟩
theorem sub_any (b1 b2 ca cb : Nat) (A B : Option Addr) (la lb : List Nat) (w : World) (ha : RowN w b1 A ca la) (hb : RowN w b2 B cb lb) (La : Limbs la) (Lb : Limbs lb) (hla : la.length ≤ 1000000) (hlb : lb.length ≤ la.length) (hle : lV lb ≤ lV la) :
  Calls Tryz.prog 142 #[.slice A la.length ca, .slice B lb.length cb] w (RowPost (InP (lV la - lV lb)) w) := by
 obtain ⟨i0, hi, hz0, hz1, hz2⟩ := info_parts Tryz.infoI
 have HA := Lib.hid ha
 have HB := Lib.hid hb
 have HLA := Lib.hid La
 have HLB := Lib.hid Lb
 have HLE := Lib.hid hle
 obtain ⟨na, hna⟩ : ∃ n, la.length = n := ⟨_, rfl⟩
 obtain ⟨nb, hnb⟩ : ∃ n, lb.length = n := ⟨_, rfl⟩
 rw [hna, hnb] at hlb
 rw [hna] at hla
 rw [hna, hnb]
 have HNA := Lib.hid hna
 have HNB := Lib.hid hnb
 clear ha hb La Lb hna hnb hle
 go_enter Tryz.func142, Tryz.ntmps142
 go_wp2_with (at_make; refine wpList_make_own _ rfl _ _ 57 rfl w.heap.size 3 i0 (.int .i64 0) 1 Tryz.underlying57 hi hz0 hz1 .i64 .i64 _ na rfl rfl (by first | rfl | omega) (by rw [hz2]; omega) (by unfold maxLen; omega) (Nat.le_refl _) ?_; intro w0 hown0 hgrow0)
 have hb0 : Below w.heap.size w w0 := (Below.refl _ _).grown hgrow0 (Nat.le_refl _) (fun k hk => by cases hk)
 have HO0 : Hid (RowN w0 w.heap.size (some ⟨w.heap.size, 0, none⟩) na []) := hown0
 clear hown0 hgrow0
 go_loopw [5, 6, 7] (fun v cv iv wr => ∃ (i c cap : Nat) (o : List Nat) (R : Option Addr), i ≤ na ∧ c ≤ 1 ∧ iv = .int .i64 i ∧ cv = .int .i64 c ∧ v = .slice R i cap ∧ Hid (SubRel la lb i c o) ∧ Hid (RowN wr w.heap.size R cap o) ∧ Below w.heap.size w wr) (fun _ _ iv _ => na - (intOf iv).toNat)
 case atStart => exact ⟨0, 0, na, [], _, by omega, by omega, rfl, rfl, rfl, ⟨Limbs.nil, rfl, by simp [lV]⟩, HO0, hb0⟩
 case round =>
  clear HO0 hb0
  obtain ⟨i, c, cap, o, R, hin, hc1, rfl, rfl, rfl, hR, hO, hb⟩ := hrel
  have hbs := hb.size
  have hol : o.length = i := hR.out.2.1
  have hO2 : Hid (wr.ownsRow w.heap.size 3 1 (.slice R i cap) i (natV o)) := by
   have h := hO.out
   unfold RowN at h
   rw [hol] at h
   exact h
  by_cases hlt : i < na
  ·have hia : i < la.length := by rw [HNA.out]; exact hlt
   have hlt' : (i : Int) < (na : Int) := by omega
   obtain ⟨ga, rfl, _, _, c1, _⟩ := (HA.out.below hb).at_ hia
   have hxa := HLA.out.get hia
   by_cases hlb2 : i < nb
   ·have hib : i < lb.length := by rw [HNB.out]; exact hlb2
    have hlb2' : (i : Int) < (nb : Int) := by omega
    obtain ⟨gb, rfl, _, _, c2, _⟩ := (HB.out.below hb).at_ hib
    have hxb := HLB.out.get hib
    by_cases hneg : la[i] < lb[i] + c
    ·obtain ⟨y, hy⟩ : ∃ y, la[i] + 16777216 = lb[i] + c + y := ⟨la[i] + 16777216 - (lb[i] + c), by omega⟩
     have HN := Lib.hid (hR.out.next (y := y) (z := 1) (by omega) (by rw [getD_eq hia, getD_eq hib]; omega))
     obtain ⟨d, hd⟩ : ∃ d : Int, (la[i] : Int) - (c : Int) - (lb[i] : Int) = d := ⟨_, rfl⟩
     have g1 : d < 0 := by omega
     have g2 : d + 16777216 = (y : Int) := by omega
     have g0 : -50000000 < d := by omega
     clear hneg hy hR
     go_wp2_with (at_builtin; refine wpList_append_lies _ rfl (.tmp 38) (.tmp 40) _ rfl w.heap.size 3 i0 (.int .i64 0) 1 8 Tryz.underlying57 hi hz0 hz1 hz2 rfl (by omega) _ i _ rfl (World.ownsRow.alloc hO2.out _) ⟨wr.heap.size, 0, none⟩ 1 1 [.int .i64 (y : Int)] rfl rfl (World.news_of_block (cs := #[.int .i64 (y : Int)]) (t := 3) (fr := (0, 0)) (heap_alloc_new wr _)) (by simp [Value.oneCell']) (by omega) (by unfold maxLen; omega) (by omega) (by simp; omega) _ rfl ?_)
     intro g cp w1 hown1 hgrow hat hlt1
     have Rr := Lib.hid (row_snocI hb hO2.out hown1 hgrow)
     clear hown1 hgrow hat hlt1 hO hO2
     go_wp2
     go_roundw
     case rel => exact ⟨i + 1, 1, cp, o ++ [y], _, by omega, by omega, by go_num, rfl, rfl, HN, Rr.out.1, Rr.out.2⟩
     case measure => simp [intOf]; omega
    ·obtain ⟨y, hy⟩ : ∃ y, la[i] = lb[i] + c + y := ⟨la[i] - (lb[i] + c), by omega⟩
     have HN := Lib.hid (hR.out.next (y := y) (z := 0) (by omega) (by rw [getD_eq hia, getD_eq hib]; omega))
     have g1 : (la[i] : Int) - (c : Int) - (lb[i] : Int) = (y : Int) := by omega
     clear hneg hy hR
     go_wp2_with (at_builtin; refine wpList_append_lies _ rfl (.tmp 38) (.tmp 40) _ rfl w.heap.size 3 i0 (.int .i64 0) 1 8 Tryz.underlying57 hi hz0 hz1 hz2 rfl (by omega) _ i _ rfl (World.ownsRow.alloc hO2.out _) ⟨wr.heap.size, 0, none⟩ 1 1 [.int .i64 (y : Int)] rfl rfl (World.news_of_block (cs := #[.int .i64 (y : Int)]) (t := 3) (fr := (0, 0)) (heap_alloc_new wr _)) (by simp [Value.oneCell']) (by omega) (by unfold maxLen; omega) (by omega) (by simp; omega) _ rfl ?_)
     intro g cp w1 hown1 hgrow hat hlt1
     have Rr := Lib.hid (row_snocI hb hO2.out hown1 hgrow)
     clear hown1 hgrow hat hlt1 hO hO2
     go_wp2
     go_roundw
     case rel => exact ⟨i + 1, 0, cp, o ++ [y], _, by omega, by omega, by go_num, rfl, rfl, HN, Rr.out.1, Rr.out.2⟩
     case measure => simp [intOf]; omega
   ·have hlb2' : ¬ (i : Int) < (nb : Int) := by omega
    have hgb : lb.getD i 0 = 0 := by rw [List.getD_eq_getElem?_getD, List.getElem?_eq_none (by rw [HNB.out]; omega)]; rfl
    by_cases hneg : la[i] < c
    ·obtain ⟨y, hy⟩ : ∃ y, la[i] + 16777216 = c + y := ⟨la[i] + 16777216 - (c), by omega⟩
     have HN := Lib.hid (hR.out.next (y := y) (z := 1) (by omega) (by rw [getD_eq hia, hgb]; omega))
     obtain ⟨d, hd⟩ : ∃ d : Int, (la[i] : Int) - (c : Int) = d := ⟨_, rfl⟩
     have g1 : d < 0 := by omega
     have g2 : d + 16777216 = (y : Int) := by omega
     have g0 : -50000000 < d := by omega
     clear hneg hy hR
     go_wp2_with (at_builtin; refine wpList_append_lies _ rfl (.tmp 38) (.tmp 40) _ rfl w.heap.size 3 i0 (.int .i64 0) 1 8 Tryz.underlying57 hi hz0 hz1 hz2 rfl (by omega) _ i _ rfl (World.ownsRow.alloc hO2.out _) ⟨wr.heap.size, 0, none⟩ 1 1 [.int .i64 (y : Int)] rfl rfl (World.news_of_block (cs := #[.int .i64 (y : Int)]) (t := 3) (fr := (0, 0)) (heap_alloc_new wr _)) (by simp [Value.oneCell']) (by omega) (by unfold maxLen; omega) (by omega) (by simp; omega) _ rfl ?_)
     intro g cp w1 hown1 hgrow hat hlt1
     have Rr := Lib.hid (row_snocI hb hO2.out hown1 hgrow)
     clear hown1 hgrow hat hlt1 hO hO2
     go_wp2
     go_roundw
     case rel => exact ⟨i + 1, 1, cp, o ++ [y], _, by omega, by omega, by go_num, rfl, rfl, HN, Rr.out.1, Rr.out.2⟩
     case measure => simp [intOf]; omega
    ·obtain ⟨y, hy⟩ : ∃ y, la[i] = c + y := ⟨la[i] - (c), by omega⟩
     have HN := Lib.hid (hR.out.next (y := y) (z := 0) (by omega) (by rw [getD_eq hia, hgb]; omega))
     have g1 : (la[i] : Int) - (c : Int) = (y : Int) := by omega
     clear hneg hy hR
     go_wp2_with (at_builtin; refine wpList_append_lies _ rfl (.tmp 38) (.tmp 40) _ rfl w.heap.size 3 i0 (.int .i64 0) 1 8 Tryz.underlying57 hi hz0 hz1 hz2 rfl (by omega) _ i _ rfl (World.ownsRow.alloc hO2.out _) ⟨wr.heap.size, 0, none⟩ 1 1 [.int .i64 (y : Int)] rfl rfl (World.news_of_block (cs := #[.int .i64 (y : Int)]) (t := 3) (fr := (0, 0)) (heap_alloc_new wr _)) (by simp [Value.oneCell']) (by omega) (by unfold maxLen; omega) (by omega) (by simp; omega) _ rfl ?_)
     intro g cp w1 hown1 hgrow hat hlt1
     have Rr := Lib.hid (row_snocI hb hO2.out hown1 hgrow)
     clear hown1 hgrow hat hlt1 hO hO2
     go_wp2
     go_roundw
     case rel => exact ⟨i + 1, 0, cp, o ++ [y], _, by omega, by omega, by go_num, rfl, rfl, HN, Rr.out.1, Rr.out.2⟩
     case measure => simp [intOf]; omega
  ·obtain rfl : i = na := by omega
   have hlt' : ¬ (i : Int) < (i : Int) := by omega
   have hR2 := hR.out
   rw [← HNA.out] at hR2
   have F := Lib.hid (hR2.done (by rw [HNA.out, HNB.out]; exact hlb) (by rw [HNA.out]; exact hla) HLE.out)
   have hTr := trim_any _ cap R o wr hO.out (by rw [hol]; omega)
   rw [hol] at hTr
   have HT := Lib.hid hTr
   have HOL := Lib.hid hol
   clear hR2 hTr hR hol
   go_wp2_with (go_at_call 65; refine HT.out.mono ?_; rintro e w1 ⟨m, hm, rfl, rfl, hv, ht⟩)
   go_ret
   have hL : (o.take m).length = m := by rw [List.length_take]; omega
   exact ⟨R, cap, o.take m, by rw [hL]; rfl, ⟨F.out.1.take m, ht, by rw [hv]; exact F.out.2.1⟩, hO.out.take hm, hb⟩
end Go.Proofs.YtdajgcgliidjbaaGreat
namespace Go.Proofs.YtdajgcgliidjbaaGreat
open Go.RowKit
theorem lV_set : ∀ (l : List Nat) (k v : Nat), k < l.length → lV (l.set k v) + 16777216 ^ k * l.getD k 0 = lV l + 16777216 ^ k * v
 | [], _, _, h => by simp at h
 | x :: r, 0, v, _ => by
  simp only [List.set_cons_zero, lV_cons, List.getD_cons_zero]; omega
 | x :: r, k + 1, v, h => by
  have ih := lV_set r k v (by simpa using h)
  rw [List.set_cons_succ, lV_cons, lV_cons, List.getD_cons_succ, Nat.pow_succ, Nat.mul_comm (16777216 ^ k) 16777216, Nat.mul_assoc, Nat.mul_assoc]
  omega
theorem Limbs.set {l : List Nat} (h : Limbs l) (k : Nat) {v : Nat} (hv : v < 16777216) : Limbs (l.set k v) := fun y hy => by
 rcases List.mem_or_eq_of_mem_set hy with hy | rfl
 ·exact h y hy
 ·exact hv
theorem getD_set_ne {l : List Nat} {k j : Nat} (v : Nat) (h : k ≠ j) : (l.set k v).getD j 0 = l.getD j 0 := by
 simp only [List.getD_eq_getElem?_getD]
 rw [List.getElem?_set_ne h]
def MulRel (la lb : List Nat) (i : Nat) (O : List Nat) : Prop := Limbs O ∧ O.length = la.length + lb.length ∧ lV O = lV (la.take i) * lV lb ∧ ∀ j, i + lb.length ≤ j → O.getD j 0 = 0
def MulIn (la lb : List Nat) (i : Nat) (O : List Nat) (k c : Nat) (Q : List Nat) : Prop :=
 Limbs Q ∧ Q.length = O.length ∧ lV Q + 16777216 ^ (i + k) * c = lV O + la.getD i 0 * 16777216 ^ i * lV (lb.take k) ∧ ∀ j, i + k ≤ j → Q.getD j 0 = O.getD j 0
theorem MulIn.next {la lb O Q : List Nat} {i k c n : Nat} (h : MulIn la lb i O k c Q) (hk : i + k < Q.length) (hn : n = Q.getD (i + k) 0 + la.getD i 0 * lb.getD k 0 + c) :
  MulIn la lb i O (k + 1) (n / 16777216) (Q.set (i + k) (n % 16777216)) := by
 obtain ⟨h1, h2, h3, h4⟩ := h
 refine ⟨h1.set _ (by omega), by simp [h2], ?_, fun j hj => by rw [getD_set_ne _ (by omega)]; exact h4 j (by omega)⟩
 have hs := lV_set Q (i + k) (n % 16777216) hk
 have e : 16777216 ^ (i + k) * (n % 16777216) + 16777216 ^ (i + (k + 1)) * (n / 16777216) = 16777216 ^ (i + k) * n := by
  rw [show i + (k + 1) = i + k + 1 from by omega, Nat.pow_succ, Nat.mul_assoc, ← Nat.mul_add]; congr 1; omega
 have e2 : 16777216 ^ (i + k) * n = 16777216 ^ (i + k) * Q.getD (i + k) 0 + la.getD i 0 * 16777216 ^ i * (16777216 ^ k * lb.getD k 0) + 16777216 ^ (i + k) * c := by
  rw [hn, Nat.mul_add, Nat.mul_add, Nat.pow_add]
  congr 2
  simp only [Nat.mul_assoc, Nat.mul_comm, Nat.mul_left_comm]
 rw [lV_take_succ, Nat.mul_add]
 omega
theorem MulIn.done {la lb O Q : List Nat} {i c : Nat} (hO : MulRel la lb i O) (h : MulIn la lb i O lb.length c Q) (hi : i < la.length) (hc : c < 16777216) : MulRel la lb (i + 1) (Q.set (i + lb.length) c) := by
 obtain ⟨h1, h2, h3, h4⟩ := h
 obtain ⟨o1, o2, o3, o4⟩ := hO
 have hlt : i + lb.length < Q.length := by rw [h2, o2]; omega
 have hz : Q.getD (i + lb.length) 0 = 0 := by rw [h4 _ (Nat.le_refl _)]; exact o4 _ (Nat.le_refl _)
 refine ⟨h1.set _ hc, by rw [List.length_set, h2, o2], ?_, fun j hj => ?_⟩
 ·have hs := lV_set Q (i + lb.length) c hlt
  rw [hz, Nat.mul_zero, Nat.add_zero] at hs
  rw [hs, h3, o3, List.take_of_length_le (Nat.le_refl _), lV_take_succ, Nat.add_mul]
  congr 1
  rw [Nat.mul_comm (la.getD i 0)]
 ·rw [getD_set_ne _ (by omega), h4 j (by omega)]
  exact o4 j (by omega)
theorem natV_stored {w : World} {base g cap n : Nat} {l : List Nat} (h : w.ownsRow base 3 1 (.slice (some ⟨g, 0, none⟩) n cap) n (natV l)) (j v : Nat) :
  (w.setCell ⟨g, j, none⟩ (.int .i64 (v : Int))).ownsRow base 3 1 (.slice (some ⟨g, 0, none⟩) n cap) n (natV (l.set j v)) := by
 have := (h.stored j (.int .i64 (v : Int))).1
 have e : natV (l.set j v) = (natV l).set j (.int .i64 (v : Int)) := by simp [natV, List.map_set]
 rw [e]; exact this
theorem mul_any (b1 b2 ca cb : Nat) (A B : Option Addr) (la lb : List Nat) (w : World) (ha : RowN w b1 A ca la) (hb : RowN w b2 B cb lb) (La : Limbs la) (Lb : Limbs lb) (hla : la.length ≤ 500000) (hlb : lb.length ≤ 500000) :
  Calls Tryz.prog 144 #[.slice A la.length ca, .slice B lb.length cb] w (RowPost (InP (lV la * lV lb)) w) := by
 obtain ⟨i0, hi, hz0, hz1, hz2⟩ := info_parts Tryz.infoI
 have HA := Lib.hid ha
 have HB := Lib.hid hb
 have HLA := Lib.hid La
 have HLB := Lib.hid Lb
 obtain ⟨na, hna⟩ : ∃ n, la.length = n := ⟨_, rfl⟩
 obtain ⟨nb, hnb⟩ : ∃ n, lb.length = n := ⟨_, rfl⟩
 obtain ⟨N, hN⟩ : ∃ N, na + nb = N := ⟨_, rfl⟩
 rw [hnb] at hlb
 rw [hna] at hla
 rw [hna, hnb]
 have HNA := Lib.hid hna
 have HNB := Lib.hid hnb
 have HN := Lib.hid hN
 have N1 : na + nb ≤ N := by omega
 have N2 : N ≤ na + nb := by omega
 clear ha hb La Lb hna hnb hN
 have hand := andL
 go_enter Tryz.func144, Tryz.ntmps144
 go_wp2_with (at_make; refine wpList_make_full _ rfl _ _ 57 rfl w.heap.size 3 i0 (.int .i64 0) 1 Tryz.underlying57 hi hz0 hz1 .i64 .i64 _ _ N rfl rfl (by omega) (by omega) (by rw [hz2]; omega) (by unfold maxLen; omega) (Nat.le_refl _) ?_; intro w0 hown0 hgrow0)
 have hb0 : Below w.heap.size w w0 := (Below.refl _ _).grown hgrow0 (Nat.le_refl _) (fun k hk => by cases hk)
 have HO0 : Hid (w0.ownsRow w.heap.size 3 1 (.slice (some ⟨w.heap.size, 0, none⟩) N N) N (natV (List.replicate N 0))) := by
  have e : natV (List.replicate N 0) = (madeCells (Value.cells (.int .i64 0)) (N * 1)).toList := by
   have := toList_madeCells_one (.int .i64 0) (N * 1)
   simp only [Value.cells] at this ⊢
   rw [this]
   simp [natV]
  show w0.ownsRow _ _ _ _ _ _
  rw [e]; exact hown0
 have HM0 : Hid (MulRel la lb 0 (List.replicate N 0)) := by
  refine ⟨fun x hx => by have := List.eq_of_mem_replicate hx; omega, by rw [List.length_replicate, HNA.out, HNB.out]; omega, ?_, fun j _ => ?_⟩
  ·have : ∀ n, lV (List.replicate n 0) = 0 := by
    intro n
    induction n with
    | zero => rfl
    | succ n ih => rw [List.replicate_succ, lV_cons, ih]
   rw [this]; simp [lV]
  ·simp only [List.getD_eq_getElem?_getD, List.getElem?_replicate]; split <;> rfl
 clear hown0 hgrow0
 go_loopw [6] (fun iv wr => ∃ (i : Nat) (O : List Nat), i ≤ na ∧ iv = .int .i64 i ∧ Hid (MulRel la lb i O) ∧ Hid (wr.ownsRow w.heap.size 3 1 (.slice (some ⟨w.heap.size, 0, none⟩) N N) N (natV O)) ∧ Below w.heap.size w wr) (fun iv _ => na - (intOf iv).toNat)
 case atStart => exact ⟨0, _, by omega, rfl, HM0, HO0, hb0⟩
 case round =>
  clear HO0 hb0 HM0
  obtain ⟨i, O, hin, rfl, hM, hO, hb⟩ := hrel
  have hbs := hb.size
  by_cases hlt : i < na
  ·have hia : i < la.length := by rw [HNA.out]; exact hlt
   have hlt' : (i : Int) < (na : Int) := by omega
   have hdi : decide (i < na) = true := by simpa using hlt
   go_wp2
   go_loopw [7, 8] (fun cv kv ws => ∃ (k c : Nat) (Q : List Nat), k ≤ nb ∧ c < 16777216 ∧ kv = .int .i64 k ∧ cv = .int .i64 c ∧ Hid (MulIn la lb i O k c Q) ∧ Hid (ws.ownsRow w.heap.size 3 1 (.slice (some ⟨w.heap.size, 0, none⟩) N N) N (natV Q)) ∧ Below w.heap.size w ws) (fun _ kv _ => nb - (intOf kv).toNat)
   case atStart => exact ⟨0, 0, O, by omega, by omega, rfl, rfl, ⟨hM.out.1, rfl, by simp [lV], fun _ _ => rfl⟩, hO, hb⟩
   case round =>
    obtain ⟨k, c, Q, hkn, hc, rfl, rfl, hI, hQ, hbw⟩ := hrel
    have hbws := hbw.size
    have hQl : Q.length = N := by rw [hI.out.2.1, hM.out.2.1, HNA.out, HNB.out]; exact HN.out
    by_cases hk : k < nb
    ·have hkb : k < lb.length := by rw [HNB.out]; exact hk
     obtain ⟨gb, rfl, _, _, c2, _⟩ := (HB.out.below hbw).at_ hkb
     obtain ⟨ga, rfl, _, _, c1, _⟩ := (HA.out.below hbw).at_ hia
     have hik : i + k < N := by omega
     have hikQ : i + k < Q.length := by omega
     have c3 : wr.cell? ⟨w.heap.size, i + k, none⟩ = some (.int .i64 (Q[i + k] : Int)) := by
      rw [hQ.out.cellAt (i + k) (by omega)]
      simp [natV, hikQ]
     have f3 := hQ.out.frozenAt (i + k)
     have xa := HLA.out.get hia
     have xb := HLB.out.get hkb
     have xq := hI.out.1.get hikQ
     have hN2 := hI.out.next (n := Q[i + k] + la[i] * lb[k] + c) hikQ (by rw [getD_eq hikQ, getD_eq hia, getD_eq hkb])
     obtain ⟨p, hp⟩ : ∃ p, la[i] * lb[k] = p := ⟨_, rfl⟩
     have hpb : p ≤ 16777215 * 16777215 := by rw [← hp]; exact Nat.mul_le_mul (by omega) (by omega)
     have hpi : (la[i] : Int) * (lb[k] : Int) = (p : Int) := by rw [← hp]; simp
     rw [hp] at hN2
     obtain ⟨n, hn⟩ : ∃ n, Q[i + k] + p + c = n := ⟨_, rfl⟩
     rw [hn] at hN2
     obtain ⟨y, hy⟩ : ∃ y, n % 16777216 = y := ⟨_, rfl⟩
     obtain ⟨z, hz⟩ : ∃ z, n / 16777216 = z := ⟨_, rfl⟩
     rw [hy, hz] at hN2
     have HN2 := Lib.hid hN2
     have hzl : z < 16777216 := by omega
     have HS := Lib.hid (natV_stored hQ.out (i + k) y)
     have g2 : (n : Int) % 16777216 = (y : Int) := by omega
     have g3 : (n : Int) / 16777216 = (z : Int) := by omega
     have q1 : IntKind.i64.wrap ((la[i] : Int) * (lb[k] : Int)) = (p : Int) := by rw [hpi]; exact IntWalk.i64_in _ (by omega)
     have q2 : IntKind.i64.wrap ((Q[i + k] : Int) + (p : Int)) = (Q[i + k] : Int) + (p : Int) := IntWalk.i64_in _ (by omega)
     have q3 : IntKind.i64.wrap ((Q[i + k] : Int) + (p : Int) + (c : Int)) = (n : Int) := by rw [IntWalk.i64_in _ (by omega)]; omega
     have q0 : IntKind.i64.wrap ((i : Int) + (k : Int)) = (i : Int) + (k : Int) := IntWalk.i64_in _ (by omega)
     have q4 : 0 ≤ (i : Int) + (k : Int) := by omega
     have q5 : ((i : Int) + (k : Int)).toNat = i + k := by omega
     have q6 : (i : Int) + (k : Int) < (N : Int) := by omega
     have q7 : (k : Int) < (nb : Int) := by omega
     have q8 : (0 : Int) ≤ (k : Int) := by omega
     have q9 : (0 : Int) ≤ (i : Int) := by omega
     clear hp hn hy hz hN2 hpi hI hQ
     generalize Q[i + k] = xQ at *
     generalize la[i] = xA at *
     generalize lb[k] = xB at *
     go_wp2_with fail
     go_quiet (fail)
     clear q0 q1 q2 q3
     go_wp2
     go_roundw
     case rel => exact ⟨k + 1, z, Q.set (i + k) y, by omega, hzl, by go_num, rfl, HN2, HS, (bd hbw _).setCell (p := ⟨w.heap.size, i + k, none⟩) (Nat.le_refl _) _⟩
     case measure => simp [intOf]; omega
    ·obtain rfl : k = nb := by omega
     have hk' : ¬ (k : Int) < (k : Int) := by omega
     have hI2 := hI.out
     rw [← HNB.out] at hI2
     have hD := hI2.done hM.out hia hc
     rw [HNB.out] at hD
     have HD := Lib.hid hD
     have HS := Lib.hid (natV_stored hQ.out (i + k) c)
     have hik : i + k < N := by omega
     have hikQ : i + k < Q.length := by omega
     have c3 : wr.cell? ⟨w.heap.size, i + k, none⟩ = some (.int .i64 (Q[i + k] : Int)) := by
      rw [hQ.out.cellAt (i + k) (by omega)]
      simp [natV, hikQ]
     have f3 := hQ.out.frozenAt (i + k)
     have q6 : (i : Int) + (k : Int) < (N : Int) := by omega
     have q5 : ((i : Int) + (k : Int)).toNat = i + k := by omega
     generalize Q[i + k] = xQ at *
     clear hI2 hD hI hQ
     go_wp2
     go_roundw
     case rel => exact ⟨i + 1, Q.set (i + k) c, by omega, by go_num, HD, HS, hbw.setCell (p := ⟨w.heap.size, i + k, none⟩) (Nat.le_refl _) _⟩
     case measure => simp [intOf]; omega
  ·obtain rfl : i = na := by omega
   have hlt' : ¬ (i : Int) < (i : Int) := by omega
   have hOl : O.length = N := by rw [hM.out.2.1, HNA.out, HNB.out]; exact HN.out
   have hP : Hid (Limbs O ∧ lV O = lV la * lV lb) := by
    refine ⟨hM.out.1, ?_⟩
    rw [hM.out.2.2.1, List.take_of_length_le (by rw [HNA.out]; omega)]
   have hO2 : RowN wr w.heap.size (some ⟨w.heap.size, 0, none⟩) N O := by unfold RowN; rw [hOl]; exact hO.out
   have hTr := trim_any _ N _ O wr hO2 (by rw [hOl]; omega)
   rw [hOl] at hTr
   have HT := Lib.hid hTr
   have HO2 := Lib.hid hO2
   have HOL := Lib.hid hOl
   clear hTr hO2 hOl hM hO
   go_wp2_with (go_at_call 65; refine HT.out.mono ?_; rintro e w1 ⟨m, hm, rfl, rfl, hv, ht⟩)
   go_ret
   have hL : (O.take m).length = m := by rw [List.length_take]; omega
   exact ⟨_, N, O.take m, by rw [hL]; rfl, ⟨hP.out.1.take m, ht, by rw [hv]; exact hP.out.2⟩, HO2.out.take hm, hb⟩
end Go.Proofs.YtdajgcgliidjbaaGreat
namespace Go.Proofs.YtdajgcgliidjbaaGreat
open Go.RowKit
theorem InP.len {n : Nat} {l : List Nat} (h : InP n l) {k : Nat} (hn : n < 16777216 ^ k) : l.length ≤ k := by
 rcases Nat.lt_or_ge k l.length with hl | hl
 ·exfalso
  have hne : l ≠ [] := by intro e; rw [e] at hl; simp at hl
  have := h.2.1.ge hne
  rw [h.2.2] at this
  have : 16777216 ^ k ≤ 16777216 ^ (l.length - 1) := Nat.pow_le_pow_right (by omega) (by omega)
  omega
 ·exact hl
theorem GB_54 : GB ≤ 16777216 ^ 54 := by unfold GB; decide
theorem InP.len54 {s : ByteArray} {l : List Nat} (ok : okG s = true) (h : InP (gV s) l) : l.length ≤ 54 := h.len (Nat.lt_of_lt_of_le (gV_lt ok) GB_54)
theorem okG_size {s : ByteArray} (h : okG s = true) : s.size ≤ 160 := by
 simp only [okG, Bool.and_eq_true, decide_eq_true_eq] at h; exact h.1
theorem bt {w w1 w2 : World} (h : Below w.heap.size w w1) (k : Below w1.heap.size w1 w2) : Below w.heap.size w w2 := h.trans (k.mono h.size)
def okT (a b : ByteArray) : Bool := okG a && okG b
def boundG (s : ByteArray) : ByteArray := if okG s then s else ⟨#[]⟩
theorem boundG_gS (n : Nat) : boundG (gS n) = gS (if n < GB then n else 0) := by
 unfold boundG
 rw [okG_gS]
 by_cases h : n < GB
 ·simp [h]
 ·simp [h, gS_zero]
def cmpG (a b : ByteArray) : Int := if okT a b then cmpI (gV a) (gV b) else 0
theorem compareGreat_any (a b : ByteArray) (w : World) : Calls Tryz.prog 79 #[.string a, .string b] w fun e w' => e = .returned (.int .i64 (cmpG a b)) ∧ Below w.heap.size w w' := by
 have HA := greatOk_any a
 have HB := greatOk_any b
 unfold cmpG okT
 cases ha : okG a with
 | false =>
  rw [ha] at HA
  go_enter Tryz.func79, Tryz.ntmps79
  go_wp2_with fail
  refine (HA _).mono ?_
  rintro e w1 ⟨rfl, rfl⟩
  go_wp2
  go_ret
  exact ⟨rfl, Below.refl _ _⟩
 | true =>
  cases hb : okG b with
  | false =>
   rw [ha] at HA
   rw [hb] at HB
   go_enter Tryz.func79, Tryz.ntmps79
   go_wp2_with fail
   refine (HA _).mono ?_
   rintro e w1 ⟨rfl, rfl⟩
   go_wp2_with fail
   refine (HB _).mono ?_
   rintro e w1 ⟨rfl, rfl⟩
   go_wp2
   go_ret
   exact ⟨rfl, Below.refl _ _⟩
  | true =>
   have sa := okG_size ha
   have sb := okG_size hb
   rw [ha] at HA
   rw [hb] at HB
   go_enter Tryz.func79, Tryz.ntmps79
   go_wp2_with fail
   refine (HA _).mono ?_
   rintro e w1 ⟨rfl, rfl⟩
   go_wp2_with fail
   refine (HB _).mono ?_
   rintro e w1 ⟨rfl, rfl⟩
   go_wp2_with fail
   refine (in_any a _ (by omega)).mono ?_
   rintro e w1 ⟨A, ca, la, rfl, pa, ra, b1⟩
   go_wp2_with fail
   refine (in_any b _ (by omega)).mono ?_
   rintro e w2 ⟨B, cb, lb, rfl, pb, rb, b2⟩
   have ra2 := ra.below b2
   have b3 := bt b1 b2
   have hc := Lib.hid (cmp_any _ _ ca cb A B la lb w2 ra2 rb pa.1 pb.1 pa.2.1 pb.2.1 (by have := pa.len54 ha; omega))
   have PA := Lib.hid pa.2.2
   have PB := Lib.hid pb.2.2
   clear pa pb ra rb ra2 b1 b2
   go_wp2_with fail
   refine hc.out.mono ?_
   rintro e w3 ⟨rfl, b4⟩
   have b5 := bt b3 b4
   go_wp2
   go_ret
   exact ⟨by rw [PA.out, PB.out]; rfl, b5⟩
def subB (a b : ByteArray) : Bool := okT a b && decide (gV b ≤ gV a)
def subG (a b : ByteArray) : ByteArray := if subB a b then gS (gV a - gV b) else ⟨#[]⟩
end Go.Proofs.YtdajgcgliidjbaaGreat
namespace Go.Proofs.YtdajgcgliidjbaaGreat
open Go.RowKit
def ofI (n : Int) : ByteArray := gS n.toNat
theorem byteCells_snoc (l : List UInt8) (c : UInt8) : Lib.byteCells (l ++ [c]) = Lib.byteCells l ++ [.int .u8 (c.toNat : Int)] := by simp [Lib.byteCells]
theorem bytes_grown {w wr w1 : World} {v : Value} {n : Nat} {l : List UInt8} {ob : Obj} (hb : Below w.heap.size w wr) (hO : wr.ownsRow w.heap.size 5 1 v n (Lib.byteCells l)) (hg : World.grownBy (wr.alloc ob) w1 (Value.ownBlock v)) : Below w.heap.size w w1 :=
 (hb.alloc hb.size ob).grown hg (hb.alloc hb.size ob).size fun j hj => (World.ownsRow.lt hO j hj).1
end Go.Proofs.YtdajgcgliidjbaaGreat
namespace Go.Proofs.YtdajgcgliidjbaaGreat
open Go.RowKit
theorem orL (k a c : Nat) (hc : c < 2 ^ k) (h : 2 ^ k * a + c < 9223372036854775808) : bits .or .i64 (((2 ^ k * a : Nat) : Int)) (c : Int) = ((2 ^ k * a + c : Nat) : Int) := by
 show IntKind.i64.wrap ((BitVec.ofInt 64 ((2 ^ k * a : Nat) : Int) ||| BitVec.ofInt 64 (c : Int)).toNat : Nat) = _
 rw [BitVec.toNat_or, BitVec.toNat_ofInt, BitVec.toNat_ofInt]
 have e1 : (((2 ^ k * a : Nat) : Int) % ((2 ^ 64 : Nat) : Int)).toNat = 2 ^ k * a := by
  generalize 2 ^ k * a = y at *; omega
 have e2 : ((c : Int) % ((2 ^ 64 : Nat) : Int)).toNat = c := by
  generalize 2 ^ k * a = y at *; omega
 rw [e1, e2, ← Nat.two_pow_add_eq_or_of_lt hc]
 generalize 2 ^ k * a + c = y at *
 rw [IntKind.wrap_i64]; omega
theorem orL8 (a c : Nat) (hc : c < 256) (h : 256 * a + c < 9223372036854775808) : bits .or .i64 (256 * (a : Int)) (c : Int) = 256 * (a : Int) + (c : Int) := by
 have := orL 8 a c hc h
 simpa using this
theorem orL24 (a c : Nat) (hc : c < 16777216) (h : 16777216 * a + c < 9223372036854775808) : bits .or .i64 (16777216 * (a : Int)) (c : Int) = 16777216 * (a : Int) + (c : Int) := by
 have := orL 24 a c hc h
 simpa using this
theorem bN_take_le (l : List UInt8) (k : Nat) : bN (l.take k) ≤ bN l := by
 have e := List.take_append_drop k l
 conv => rhs; rw [← e]
 rw [bN_append]
 have : bN (l.take k) * 1 ≤ bN (l.take k) * 256 ^ (l.drop k).length := Nat.mul_le_mul_left _ (Nat.pow_pos (by omega))
 omega
theorem bN_at {l : List UInt8} {k : Nat} (h : k < l.length) : bN l / 256 ^ (l.length - 1 - k) % 256 = l[k].toNat := by
 have e : l = l.take k ++ [l[k]] ++ l.drop (k + 1) := by
  rw [← List.take_succ_eq_append_getElem h, List.take_append_drop]
 have hd : (l.drop (k + 1)).length = l.length - 1 - k := by rw [List.length_drop]; omega
 have hv : bN l = bN (l.take k ++ [l[k]]) * 256 ^ (l.length - 1 - k) + bN (l.drop (k + 1)) := by
  conv => lhs; rw [e]
  rw [bN_append, hd]
 have hlt := bN_lt (l.drop (k + 1))
 rw [hd] at hlt
 rw [hv, Nat.add_comm, Nat.add_mul_div_right _ _ (Nat.pow_pos (by omega)), Nat.div_eq_of_lt hlt, bN_snoc]
 have := l[k].toNat_lt
 omega
def intB (s : ByteArray) : Bool := okG s && decide (gV s < 9223372036854775808)
def intG (s : ByteArray) : Int := if intB s then (gV s : Int) else 0
theorem head_val {s : ByteArray} (h : 0 < s.size) : s[0].toNat = gV s / 256 ^ (s.size - 1) % 256 := by
 have hl : 0 < s.data.toList.length := by simpa using h
 have := bN_at (l := s.data.toList) (k := 0) hl
 have e : s.data.toList.length = s.size := by simp
 rw [e] at this
 unfold gV
 rw [show s.size - 1 = s.size - 1 - 0 from by omega, this]
 rfl
theorem gV_size (s : ByteArray) : gV s < 256 ^ s.size := by
 have := bN_lt s.data.toList
 have e : s.data.toList.length = s.size := by simp
 rw [e] at this; exact this
theorem gV_ge {s : ByteArray} (ok : okG s = true) (h : 0 < s.size) : 256 ^ (s.size - 1) ≤ gV s := by
 simp only [okG, Bool.and_eq_true] at ok
 have e : s.data.toList.length = s.size := by simp
 have hne : s.data.toList ≠ [] := by intro e2; rw [e2] at e; simp at e; omega
 have := headOk_pos ok.2 hne
 rw [e] at this; exact this
theorem intB_long {s : ByteArray} (ok : okG s = true) (h : 8 < s.size) : intB s = false := by
 unfold intB
 have := gV_ge ok (by omega)
 have : 256 ^ 8 ≤ 256 ^ (s.size - 1) := Nat.pow_le_pow_right (by omega) (by omega)
 have : decide (gV s < 9223372036854775808) = false := by simp only [decide_eq_false_iff_not]; omega
 rw [this]; simp
theorem intB_eight {s : ByteArray} (ok : okG s = true) (h : s.size = 8) : intB s = decide (s[0].toNat ≤ 127) := by
 have h1 := head_val (s := s) (by omega)
 have h2 := gV_size s
 have e1 : 256 ^ (s.size - 1) = 256 ^ 7 := by rw [h]
 rw [e1] at h1
 rw [h] at h2
 unfold intB
 rw [ok, Bool.true_and, Bool.eq_iff_iff]
 simp only [decide_eq_true_eq]
 omega
theorem intB_short {s : ByteArray} (ok : okG s = true) (h : s.size < 8) : intB s = true := by
 have h2 := gV_size s
 have : 256 ^ s.size ≤ 256 ^ 7 := Nat.pow_le_pow_right (by omega) (by omega)
 unfold intB
 rw [ok, Bool.true_and]
 simp only [decide_eq_true_eq]
 omega
def IntPost (s : ByteArray) (w : World) (e : Ending) (w' : World) : Prop := e = .returned (.tuple #[.int .i64 (intG s), .bool (intB s)]) ∧ w = w'
theorem int_no {s : ByteArray} (h : intB s = false) (w : World) : IntPost s w (.returned (.tuple #[.int .i64 0, .bool false])) w := ⟨by unfold intG; rw [h]; rfl, rfl⟩
theorem greatInt_any (s : ByteArray) (w : World) : Calls Tryz.prog 189 #[.string s] w (IntPost s w) := by
 have HG := greatOk_any s
 cases ok : okG s with
 | false =>
  rw [ok] at HG
  have N := Lib.hid (int_no (s := s) (by unfold intB; rw [ok]; rfl))
  go_enter Tryz.func189, Tryz.ntmps189
  go_wp2_with fail
  refine (HG _).mono ?_
  rintro e w1 ⟨rfl, rfl⟩
  go_wp2
  go_ret2
  exact N.out _
 | true =>
  rw [ok] at HG
  by_cases h9 : 8 < s.size
  ·have N := Lib.hid (int_no (intB_long ok h9))
   have h9' : (8 : Int) < (s.size : Int) := by omega
   go_enter Tryz.func189, Tryz.ntmps189
   go_wp2_with fail
   refine (HG _).mono ?_
   rintro e w1 ⟨rfl, rfl⟩
   go_wp2
   go_ret2
   exact N.out _
  have h9' : ¬ (8 : Int) < (s.size : Int) := by omega
  cases hB : intB s with
  | false =>
   have h8 : s.size = 8 := by
    rcases Nat.lt_or_ge s.size 8 with h | h
    ·rw [intB_short ok h] at hB; cases hB
    ·omega
   have N := Lib.hid (int_no hB)
   rw [intB_eight ok h8] at hB
   simp only [decide_eq_false_iff_not] at hB
   have h0 : 0 < s.size := by omega
   have q1 : ((s.size : Int) == 8) = true := by simp [h8]
   have q2 : (127 : Int) < (s[0].toNat : Int) := by omega
   have q3 : (0 : Int) < (s.size : Int) := by omega
   clear h8 hB
   go_enter Tryz.func189, Tryz.ntmps189
   go_wp2_with fail
   refine (HG _).mono ?_
   rintro e w1 ⟨rfl, rfl⟩
   go_wp2
   go_ret2
   exact N.out _
  | true =>
   have Y : Hid (∀ w, IntPost s w (.returned (.tuple #[.int .i64 (gV s : Int), .bool true])) w) := fun w => ⟨by unfold intG; rw [hB]; rfl, rfl⟩
   have hV : Hid (gV s < 9223372036854775808) := by
    have := hB
    unfold intB at this
    rw [ok, Bool.true_and] at this
    show gV s < 9223372036854775808
    simpa using this
   have hq : ((s.size : Int) == 8) = false ∨ (((s.size : Int) == 8) = true ∧ ∃ h : 0 < s.size, ¬ (127 : Int) < (s[0].toNat : Int)) := by
    by_cases h8 : s.size = 8
    ·refine .inr ⟨by simp [h8], by omega, ?_⟩
     rw [intB_eight ok h8] at hB
     simp at hB
     omega
    ·exact .inl (by simp; omega)
   have hs8 : s.size ≤ 8 := by omega
   clear hB ok h9
   go_enter Tryz.func189, Tryz.ntmps189
   go_wp2_with fail
   refine (HG _).mono ?_
   rintro e w1 ⟨rfl, rfl⟩
   clear HG
   rcases hq with hq | ⟨hq, h0, hq2⟩
   all_goals (
    go_wp2
    go_loop [4, 5] (fun nv iv => ∃ i : Nat, i ≤ s.size ∧ iv = .int .i64 i ∧ nv = .int .i64 (bN (s.data.toList.take i) : Int)) (fun _ iv => s.size - (intOf iv).toNat)
    case atStart => exact ⟨0, by omega, rfl, by simp [bN]⟩
    case round =>
     obtain ⟨i, his, rfl, rfl⟩ := hrel
     by_cases hlt : i < s.size
     ·have hlt' : (i : Int) < (s.size : Int) := by omega
      have e := take_snoc s i hlt
      have hle := bN_take_le s.data.toList (i + 1)
      rw [e, bN_snoc] at hle
      have hle2 := Nat.lt_of_le_of_lt hle hV.out
      have hc := s[i].toNat_lt
      have E : Hid (bN (s.data.toList.take (i + 1)) = 256 * bN (s.data.toList.take i) + s[i].toNat) := by rw [e, bN_snoc]; exact rfl
      obtain ⟨n, hn⟩ : ∃ n, bN (s.data.toList.take i) = n := ⟨_, rfl⟩
      rw [hn] at hle2 E ⊢
      have ho := orL8 n s[i].toNat hc hle2
      have q1 : IntKind.i64.wrap (256 * (n : Int)) = 256 * (n : Int) := IntWalk.i64_in _ (by omega)
      have q2 : IntKind.i64.wrap ((n : Int) * 256) = 256 * (n : Int) := by rw [IntWalk.i64_in _ (by omega)]; omega
      clear hn hle hle2 e
      go_wp2
      go_round
      case rel => exact ⟨i + 1, by omega, by go_num, by rw [E.out]; simp⟩
      case measure => simp [intOf]; omega
     ·obtain rfl : i = s.size := by omega
      rw [take_all]
      have Y2 := Lib.hid (Y.out)
      go_wp2
      go_ret2
      exact Y.out _)
def bitLen (v : Nat) : Nat := if v = 0 then 0 else v.log2 + 1
theorem bitLen_eq {v b : Nat} (h1 : 2 ^ b ≤ v) (h2 : v < 2 ^ (b + 1)) : bitLen v = b + 1 := by
 have hv : v ≠ 0 := by have := Nat.pow_pos (n := b) (show 0 < 2 by omega); omega
 unfold bitLen
 rw [if_neg hv]
 have a1 := (Nat.le_log2 hv).2 h1
 have a2 := (Nat.log2_lt hv).2 h2
 omega
def bitsG (s : ByteArray) : Int := if okG s then (bitLen (gV s) : Int) else -1
theorem bits_head {s : ByteArray} (h : 0 < s.size) {k x : Nat} (hk : k ≤ 7) (hx : x = s[0].toNat * 2 ^ k) (h1 : 128 ≤ x) (h2 : x < 256) : bitLen (gV s) + k = 8 * s.size := by
 have hv := head_val h
 have hlt := gV_size s
 obtain ⟨n, hn⟩ : ∃ n, s.size = n + 1 := ⟨s.size - 1, by omega⟩
 have e1 : 256 ^ (s.size - 1) = 256 ^ n := by rw [hn]; rfl
 have e2 : 256 ^ s.size = 256 * 256 ^ n := by rw [hn, Nat.pow_succ, Nat.mul_comm]
 rw [e1] at hv
 rw [e2] at hlt
 obtain ⟨p, hp⟩ : ∃ p, 256 ^ n = p := ⟨_, rfl⟩
 have hp0 : 0 < p := by rw [← hp]; exact Nat.pow_pos (by omega)
 have hp2 : p = 2 ^ (8 * n) := by rw [← hp, show (256 : Nat) = 2 ^ 8 from rfl, ← Nat.pow_mul]
 rw [hp] at hv hlt
 have hq : gV s / p < 256 := (Nat.div_lt_iff_lt_mul hp0).2 (by omega)
 have hv2 : s[0].toNat = gV s / p := by rw [hv]; exact Nat.mod_eq_of_lt hq
 obtain ⟨d, hd⟩ : ∃ d, gV s / p = d := ⟨_, rfl⟩
 rw [hd] at hv2 hq
 have hdm := Nat.div_add_mod (gV s) p
 rw [hd] at hdm
 have hr := Nat.mod_lt (gV s) hp0
 rw [hv2] at hx
 have hkk : (2 : Nat) ^ 7 = 2 ^ (7 - k) * 2 ^ k := by rw [← Nat.pow_add]; congr 1; omega
 have hkk2 : (2 : Nat) ^ 8 = 2 ^ (8 - k) * 2 ^ k := by rw [← Nat.pow_add]; congr 1; omega
 have d1 : 2 ^ (7 - k) ≤ d := by
  rcases Nat.lt_or_ge d (2 ^ (7 - k)) with h | h
  ·have := Nat.mul_lt_mul_of_pos_right h (Nat.pow_pos (n := k) (show 0 < 2 by omega)); omega
  ·exact h
 have d2 : d < 2 ^ (8 - k) := by
  rcases Nat.lt_or_ge d (2 ^ (8 - k)) with h | h
  ·exact h
  ·have := Nat.mul_le_mul_right (2 ^ k) h; omega
 have hb : bitLen (gV s) = 7 - k + 8 * n + 1 := by
  refine bitLen_eq ?_ ?_
  ·rw [Nat.pow_add, ← hp2]
   have := Nat.mul_le_mul_right p d1
   rw [Nat.mul_comm d p] at this; omega
  ·rw [show 7 - k + 8 * n + 1 = 8 - k + 8 * n from by omega, Nat.pow_add, ← hp2]
   have := Nat.mul_le_mul_right p (show d + 1 ≤ 2 ^ (8 - k) from d2)
   rw [Nat.add_mul, Nat.mul_comm d p] at this; omega
 rw [hb, hn]; omega
theorem bitsOf_any (s : ByteArray) (w : World) : Calls Tryz.prog 173 #[.string s] w fun e w' => e = .returned (.int .i64 (bitsG s)) ∧ w = w' := by
 have HG := greatOk_any s
 unfold bitsG
 cases ok : okG s with
 | false =>
  rw [ok] at HG
  go_enter Tryz.func173, Tryz.ntmps173
  go_wp2_with fail
  refine (HG _).mono ?_
  rintro e w1 ⟨rfl, rfl⟩
  go_wp2
  go_ret
  exact ⟨rfl, rfl⟩
 | true =>
  rw [ok] at HG
  have hs := okG_size ok
  by_cases h0 : s.size = 0
  ·have E : Hid (bitLen (gV s) = 0) := by
    show _ = _
    have : s.data.toList = [] := List.eq_nil_of_length_eq_zero (by simpa using h0)
    unfold gV; rw [this]; rfl
   have h0' : ¬ (0 : Int) < (s.size : Int) := by omega
   have h0'' : (s.size : Int) = 0 := by omega
   go_enter Tryz.func173, Tryz.ntmps173
   go_wp2_with fail
   refine (HG _).mono ?_
   rintro e w1 ⟨rfl, rfl⟩
   go_wp2
   go_ret
   exact ⟨by rw [E.out]; rfl, rfl⟩
  ·have hp : 0 < s.size := by omega
   have h0' : (0 : Int) < (s.size : Int) := by omega
   have hne : Hid (0 < s[0].toNat) := by
    show 0 < s[0].toNat
    have := okG_head hp hs
    rw [ok] at this
    have : s[0].toNat ≠ 0 := by simpa using this.symm
    omega
   have hc := s[0].toNat_lt
   clear ok h0
   go_enter Tryz.func173, Tryz.ntmps173
   go_wp2_with fail
   refine (HG _).mono ?_
   rintro e w1 ⟨rfl, rfl⟩
   go_wp2
   go_loop [3, 4] (fun nv xv => ∃ k x : Nat, k ≤ 7 ∧ x < 256 ∧ Hid (x = s[0].toNat * 2 ^ k) ∧ xv = .int .u8 x ∧ nv = .int .i64 (8 * (s.size : Int) - k)) (fun _ xv => 256 - (intOf xv).toNat)
   case atStart => exact ⟨0, s[0].toNat, by omega, hc, by show _ = _; simp, rfl, by simp⟩
   case round =>
    obtain ⟨k, x, hk, hx, hX, rfl, rfl⟩ := hrel
    by_cases hlt : x < 128
    ·have hlt' : (x : Int) < 128 := by omega
     have hk6 : k < 7 := by
      rcases Nat.lt_or_ge k 7 with h | h
      ·exact h
      ·exfalso
       have e : k = 7 := by omega
       have a := hX.out
       have b := hne.out
       rw [e] at a; omega
     have hx0 : 0 < x := by
      rw [hX.out]; exact Nat.mul_pos hne.out (Nat.pow_pos (by omega))
     have hX2 : Hid (2 * x = s[0].toNat * 2 ^ (k + 1)) := by show _ = _; rw [Nat.pow_succ, ← Nat.mul_assoc, ← hX.out]; omega
     have q1 : IntKind.u8.wrap ((x : Int) * 2) = 2 * (x : Int) := by rw [IntKind.wrap_u8]; omega
     have q2 : IntKind.u8.wrap (2 * (x : Int)) = 2 * (x : Int) := by rw [IntKind.wrap_u8]; omega
     clear hX
     go_wp2
     go_round
     case rel => exact ⟨k + 1, 2 * x, by omega, by omega, hX2, by go_num, by go_num⟩
     case measure => simp [intOf]; omega
    ·have hlt' : ¬ (x : Int) < 128 := by omega
     have E := Lib.hid (bits_head hp hk hX.out (by omega) hx)
     clear hX
     go_wp2
     go_ret
     refine ⟨?_, rfl⟩
     have e := E.out
     have : (bitLen (gV s) : Int) = 8 * (s.size : Int) - k := by omega
     rw [this]; rfl
def bitG (s : ByteArray) (i : Int) : Int := if okG s && decide (0 ≤ i) && decide (i.toNat / 8 < s.size) then ((gV s / 2 ^ i.toNat % 2 : Nat) : Int) else 0
theorem bit_at {s : ByteArray} {i : Nat} (h : i / 8 < s.size) : (s[s.size - 1 - i / 8]'(by omega)).toNat / 2 ^ (i % 8) % 2 = gV s / 2 ^ i % 2 := by
 have hl : s.size - 1 - i / 8 < s.data.toList.length := by simp; show _ < s.size; omega
 have := bN_at hl
 have e : s.data.toList.length = s.size := by simp
 rw [e, show s.size - 1 - (s.size - 1 - i / 8) = i / 8 from by omega] at this
 have e2 : (s[s.size - 1 - i / 8]'(by omega)).toNat = gV s / 256 ^ (i / 8) % 256 := by unfold gV; rw [this]; rfl
 rw [e2]
 have e3 : (2 : Nat) ^ i = 256 ^ (i / 8) * 2 ^ (i % 8) := by
  rw [show (256 : Nat) = 2 ^ 8 from rfl, ← Nat.pow_mul, ← Nat.pow_add]; congr 1; omega
 rw [e3, ← Nat.div_div_eq_div_mul]
 generalize gV s / 256 ^ (i / 8) = v
 have hr : i % 8 < 8 := Nat.mod_lt _ (by omega)
 have e4 : (256 : Nat) = 2 ^ (i % 8) * (2 * 2 ^ (7 - i % 8)) := by
  rw [show (256 : Nat) = 2 ^ 8 from rfl, ← Nat.pow_succ', ← Nat.pow_add]; congr 1; omega
 rw [e4, Nat.mod_mul_right_div_self]
 exact Nat.mod_mul_right_mod _ _ _
theorem andOne (n : Int) : bits .and .i64 n 1 = n % 2 := by
 have h1 : (BitVec.ofInt 64 1).toNat = 2 ^ 1 - 1 := by decide
 have key : (BitVec.ofInt 64 n &&& BitVec.ofInt 64 1).toNat = (n % ((2 ^ 64 : Nat) : Int)).toNat % 2 ^ 1 := by
  rw [BitVec.toNat_and, BitVec.toNat_ofInt, h1, Nat.and_two_pow_sub_one_eq_mod]
 show IntKind.i64.wrap ((BitVec.ofInt 64 n &&& BitVec.ofInt 64 1).toNat : Nat) = n % 2
 rw [key, IntKind.wrap_i64]
 omega
theorem bitOf_any (s : ByteArray) (i : Int) (w : World) (hi : i < 9223372036854775808) : Calls Tryz.prog 167 #[.string s, .int .i64 i] w fun e w' => e = .returned (.int .i64 (bitG s i)) ∧ w = w' := by
 have HG := greatOk_any s
 unfold bitG
 cases ok : okG s with
 | false =>
  rw [ok] at HG
  clear hi
  go_enter Tryz.func167, Tryz.ntmps167
  go_wp2_with fail
  refine (HG _).mono ?_
  rintro e w1 ⟨rfl, rfl⟩
  go_wp2
  go_ret
  exact ⟨rfl, rfl⟩
 | true =>
  rw [ok] at HG
  have hs := okG_size ok
  by_cases h0 : i < 0
  ·have E : Hid ((if (true && decide (0 ≤ i) && decide (i.toNat / 8 < s.size)) = true then ((gV s / 2 ^ i.toNat % 2 : Nat) : Int) else 0) = 0) := by
    show _ = _
    have : decide (0 ≤ i) = false := by simp; omega
    rw [this]; rfl
   rw [E.out]
   clear hi
   go_enter Tryz.func167, Tryz.ntmps167
   go_wp2_with fail
   refine (HG _).mono ?_
   rintro e w1 ⟨rfl, rfl⟩
   go_wp2
   go_ret
   exact ⟨rfl, rfl⟩
  obtain ⟨m, rfl⟩ : ∃ m : Nat, i = (m : Int) := ⟨i.toNat, by omega⟩
  by_cases h8 : m / 8 < s.size
  ·have E : (if (true && decide (0 ≤ (m : Int)) && decide ((m : Int).toNat / 8 < s.size)) = true then ((gV s / 2 ^ (m : Int).toNat % 2 : Nat) : Int) else 0) = ((gV s / 2 ^ m % 2 : Nat) : Int) := by
    have a1 : decide (0 ≤ (m : Int)) = true := by simp
    have a2 : decide ((m : Int).toNat / 8 < s.size) = true := by simpa using h8
    rw [a1, a2, Int.toNat_natCast]; rfl
   rw [E, ← bit_at h8]
   obtain ⟨q, hq⟩ : ∃ q, m / 8 = q := ⟨_, rfl⟩
   obtain ⟨r, hr⟩ : ∃ r, m % 8 = r := ⟨_, rfl⟩
   obtain ⟨p, hp⟩ : ∃ p, s.size - 1 - q = p := ⟨_, rfl⟩
   have hps : p < s.size := by omega
   have hX : (s[s.size - 1 - m / 8]'(by omega)).toNat = s[p].toNat := by congr 2; omega
   have i1 : (m : Int) / 8 = (q : Int) := by omega
   have i1' : Int.tdiv (m : Int) 8 = (q : Int) := by rw [Int.tdiv_eq_ediv_of_nonneg (by omega)]; omega
   have i2 : (m : Int) % 8 = (r : Int) := by omega
   have i2' : Int.tmod (m : Int) 8 = (r : Int) := by rw [Int.tmod_eq_emod_of_nonneg (by omega)]; omega
   have i3 : (s.size : Int) - 1 - (q : Int) = (p : Int) := by omega
   have i4 : ¬ (s.size : Int) ≤ (q : Int) := by omega
   have i5 : (p : Int) < (s.size : Int) := by omega
   have i6 : IntKind.u64.wrap (r : Int) = (r : Int) := by rw [IntKind.wrap_u64]; omega
   have hr8 : r < 8 := by omega
   have i7 : Hid (((s[p].toNat : Int) / 2 ^ r) % 2 = ((s[p].toNat / 2 ^ r % 2 : Nat) : Int)) := by show _ = _; simp
   have i8 : decide ((m : Int) < 0) = false := by simp
   have i9 : decide ((s.size : Int) ≤ (q : Int)) = false := by simpa using i4
   have hand := andOne
   rw [hr, hX]
   have hc := s[p].toNat_lt
   rw [← i7.out]
   clear E hX hq hr hp hi ok h8 h0 i7
   go_enter Tryz.func167, Tryz.ntmps167
   go_wp2_with fail
   refine (HG _).mono ?_
   rintro e w1 ⟨rfl, rfl⟩
   go_wp2
   go_ret
   exact ⟨rfl, rfl⟩
  ·have E : Hid ((if (true && decide (0 ≤ (m : Int)) && decide ((m : Int).toNat / 8 < s.size)) = true then ((gV s / 2 ^ (m : Int).toNat % 2 : Nat) : Int) else 0) = 0) := by
    show _ = _
    have a2 : decide ((m : Int).toNat / 8 < s.size) = false := by simpa using h8
    rw [a2, Bool.and_false]; rfl
   rw [E.out]
   obtain ⟨q, hq⟩ : ∃ q, m / 8 = q := ⟨_, rfl⟩
   have i1 : (m : Int) / 8 = (q : Int) := by omega
   have i1' : Int.tdiv (m : Int) 8 = (q : Int) := by rw [Int.tdiv_eq_ediv_of_nonneg (by omega)]; omega
   have i4 : (s.size : Int) ≤ (q : Int) := by omega
   have i5 : IntKind.i64.wrap (q : Int) = (q : Int) := IntWalk.i64_in _ (by omega)
   have i6 : decide ((m : Int) < 0) = false := by simp
   have i7 : decide ((s.size : Int) ≤ (q : Int)) = true := by simpa using i4
   clear E hq hi ok h8 h0
   go_enter Tryz.func167, Tryz.ntmps167
   go_wp2_with fail
   refine (HG _).mono ?_
   rintro e w1 ⟨rfl, rfl⟩
   go_wp2
   go_ret
   exact ⟨rfl, rfl⟩
end Go.Proofs.YtdajgcgliidjbaaGreat

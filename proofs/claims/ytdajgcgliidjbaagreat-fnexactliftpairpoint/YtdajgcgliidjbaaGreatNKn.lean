import Derived.Test.YtdajgcgliidjbaaGreatNArith
set_option maxRecDepth 8000
set_option maxHeartbeats 4000000
namespace Go.Proofs.YtdajgcgliidjbaaGreat
open Go.RowKit
def LeftRel (la : List Nat) (s i c : Nat) (o : List Nat) : Prop := Limbs o ∧ o.length = i ∧ lV o + 16777216 ^ i * c = 2 ^ s * lV (la.take i)
theorem LeftRel.next {la o : List Nat} {s i c n : Nat} (h : LeftRel la s i c o) (hn : n = 2 ^ s * la.getD i 0 + c) : LeftRel la s (i + 1) (n / 16777216) (o ++ [n % 16777216]) := by
 obtain ⟨h1, h2, h3⟩ := h
 refine ⟨h1.snoc (by omega), by simp [h2], ?_⟩
 rw [lV_snoc, h2, lV_take_succ, Nat.pow_succ, Nat.mul_assoc]
 have e : 16777216 ^ i * (n % 16777216) + 16777216 ^ i * (16777216 * (n / 16777216)) = 16777216 ^ i * n := by
  rw [← Nat.mul_add]; congr 1; omega
 rw [hn, Nat.mul_add] at e
 rw [hn] at *
 rw [Nat.mul_add]
 have e2 : 16777216 ^ i * (2 ^ s * la.getD i 0) = 2 ^ s * (16777216 ^ i * la.getD i 0) := by rw [Nat.mul_left_comm]
 omega
theorem left_carry {s a c : Nat} (ha : a < 16777216) (hc : c < 2 ^ s) : (2 ^ s * a + c) / 16777216 < 2 ^ s := by
 rw [Nat.div_lt_iff_lt_mul (by omega)]
 have := Nat.mul_le_mul_left (2 ^ s) (show a + 1 ≤ 16777216 from ha)
 rw [Nat.mul_add] at this
 omega
def LeftP (la : List Nat) (s : Nat) (l : List Nat) : Prop := Limbs l ∧ l.length = la.length + 1 ∧ lV l = 2 ^ s * lV la
theorem LeftRel.done {la o : List Nat} {s c : Nat} (h : LeftRel la s la.length c o) (hc : c < 16777216) : LeftP la s (o ++ [c]) := by
 obtain ⟨h1, h2, h3⟩ := h
 rw [List.take_of_length_le (Nat.le_refl _)] at h3
 exact ⟨h1.snoc hc, by simp [h2], by rw [lV_snoc, h2]; exact h3⟩
theorem pow_le23 {s : Nat} (h : s ≤ 23) : 2 ^ s ≤ 8388608 := Nat.pow_le_pow_right (n := 2) (by omega) h
theorem left_any (b1 ca s : Nat) (A : Option Addr) (la : List Nat) (w : World) (ha : RowN w b1 A ca la) (La : Limbs la) (hla : la.length ≤ 500000) (hs : s ≤ 23) :
  Calls Tryz.prog 172 #[.slice A la.length ca, .int .u64 (s : Int)] w (RowPost (LeftP la s) w) := by
 obtain ⟨i0, hi, hz0, hz1, hz2⟩ := info_parts Tryz.infoI
 have HA := Lib.hid ha
 have HLA := Lib.hid La
 obtain ⟨na, hna⟩ : ∃ n, la.length = n := ⟨_, rfl⟩
 rw [hna] at hla
 rw [hna]
 have HNA := Lib.hid hna
 clear ha La hna
 have hand := andL
 have hp23 := pow_le23 hs
 obtain ⟨P, hP⟩ : ∃ P, 2 ^ s = P := ⟨_, rfl⟩
 have hPi : ((2 : Int) ^ s) = (P : Int) := by rw [← hP]; simp
 rw [hP] at hp23
 have HP := Lib.hid hP
 have hP0 : 0 < P := by rw [← hP]; exact Nat.pow_pos (by omega)
 clear hP
 go_enter Tryz.func172, Tryz.ntmps172
 go_wp2_with (at_make; refine wpList_make_own _ rfl _ _ 57 rfl w.heap.size 3 i0 (.int .i64 0) 1 Tryz.underlying57 hi hz0 hz1 .i64 .i64 _ (na + 1) rfl rfl (by first | rfl | omega) (by rw [hz2]; omega) (by unfold maxLen; omega) (Nat.le_refl _) ?_; intro w0 hown0 hgrow0)
 have hb0 : Below w.heap.size w w0 := (Below.refl _ _).grown hgrow0 (Nat.le_refl _) (fun k hk => by cases hk)
 have HO0 : Hid (RowN w0 w.heap.size (some ⟨w.heap.size, 0, none⟩) (na + 1) []) := hown0
 clear hown0 hgrow0
 go_loopw [5, 6, 7] (fun v cv iv wr => ∃ (i c cap : Nat) (o : List Nat) (R : Option Addr), i ≤ na ∧ c < P ∧ iv = .int .i64 i ∧ cv = .int .i64 c ∧ v = .slice R i cap ∧ Hid (LeftRel la s i c o) ∧ Hid (RowN wr w.heap.size R cap o) ∧ Below w.heap.size w wr) (fun _ _ iv _ => na - (intOf iv).toNat)
 case atStart => exact ⟨0, 0, na + 1, [], _, by omega, by omega, rfl, rfl, rfl, ⟨Limbs.nil, rfl, by simp [lV]⟩, HO0, hb0⟩
 case round =>
  clear HO0 hb0
  obtain ⟨i, c, cap, o, R, hin, hc1, rfl, rfl, rfl, hR, hO, hb⟩ := hrel
  have hbs := hb.size
  have hol : o.length = i := hR.out.2.1
  have hO2 : Hid (wr.ownsRow w.heap.size 3 1 (.slice R i cap) i (natV o)) := by
   have h := hO.out
   unfold RowN at h
   rw [hol] at h
   exact h
  by_cases hlt : i < na
  ·have hia : i < la.length := by rw [HNA.out]; exact hlt
   have hlt' : (i : Int) < (na : Int) := by omega
   obtain ⟨ga, rfl, _, _, c1, _⟩ := (HA.out.below hb).at_ hia
   have hxa := HLA.out.get hia
   have N := hR.out.next (n := 2 ^ s * la[i] + c) (by rw [getD_eq hia])
   have hcar := left_carry (s := s) (c := c) hxa (by rw [HP.out]; exact hc1)
   rw [HP.out] at N hcar
   have hmul : P * la[i] ≤ 8388608 * 16777215 := Nat.mul_le_mul hp23 (by omega)
   have hor := orL s la[i] c (by rw [HP.out]; exact hc1) (by rw [HP.out]; omega)
   rw [HP.out] at hor
   obtain ⟨p, hp⟩ : ∃ p, P * la[i] = p := ⟨_, rfl⟩
   rw [hp] at hor hmul hcar N
   have hpi : (la[i] : Int) * (P : Int) = (p : Int) := by rw [← hp]; simp [Int.mul_comm]
   obtain ⟨n, hn⟩ : ∃ n, p + c = n := ⟨_, rfl⟩
   rw [hn] at N hcar hor
   obtain ⟨y, hy⟩ : ∃ y, n % 16777216 = y := ⟨_, rfl⟩
   obtain ⟨z, hz⟩ : ∃ z, n / 16777216 = z := ⟨_, rfl⟩
   rw [hy, hz] at N
   rw [hz] at hcar
   have HN := Lib.hid N
   have g2 : (n : Int) % 16777216 = (y : Int) := by omega
   have g3 : (n : Int) / 16777216 = (z : Int) := by omega
   have hs24 : s < 24 := by omega
   clear N hn hy hz hp
   go_wp2_with (at_builtin; refine wpList_append_lies _ rfl (.tmp 27) (.tmp 30) _ rfl w.heap.size 3 i0 (.int .i64 0) 1 8 Tryz.underlying57 hi hz0 hz1 hz2 rfl (by omega) _ i _ rfl (World.ownsRow.alloc hO2.out _) ⟨wr.heap.size, 0, none⟩ 1 1 [.int .i64 (y : Int)] rfl rfl (World.news_of_block (cs := #[.int .i64 (y : Int)]) (t := 3) (fr := (0, 0)) (heap_alloc_new wr _)) (by simp [Value.oneCell']) (by omega) (by unfold maxLen; omega) (by omega) (by simp; omega) _ rfl ?_)
   intro g cp w1 hown1 hgrow hat hlt1
   have Rr := Lib.hid (row_snocI hb hO2.out hown1 hgrow)
   clear hown1 hgrow hat hlt1 hO hO2
   go_wp2
   go_roundw
   case rel => exact ⟨i + 1, z, cp, o ++ [y], _, by omega, by omega, by go_num, rfl, rfl, HN, Rr.out.1, Rr.out.2⟩
   case measure => simp [intOf]; omega
  ·obtain rfl : i = na := by omega
   have hlt' : ¬ (i : Int) < (i : Int) := by omega
   have hR2 := hR.out
   rw [← HNA.out] at hR2
   have F := Lib.hid (hR2.done (by omega))
   clear hR2
   go_wp2_with (at_builtin; refine wpList_append_lies _ rfl (.tmp 34) (.tmp 36) _ rfl w.heap.size 3 i0 (.int .i64 0) 1 8 Tryz.underlying57 hi hz0 hz1 hz2 rfl (by omega) _ i _ rfl (World.ownsRow.alloc hO2.out _) ⟨wr.heap.size, 0, none⟩ 1 1 [.int .i64 (c : Int)] rfl rfl (World.news_of_block (cs := #[.int .i64 (c : Int)]) (t := 3) (fr := (0, 0)) (heap_alloc_new wr _)) (by simp [Value.oneCell']) (by omega) (by unfold maxLen; omega) (by omega) (by simp; omega) _ rfl ?_)
   intro g cp w1 hown1 hgrow hat hlt1
   have Rr := row_snocI hb hO2.out hown1 hgrow
   have Z : RowPost (LeftP la s) w (.returned (.slice (some ⟨g, 0, none⟩) (i + 1) cp)) w1 := ⟨_, cp, o ++ [c], by rw [List.length_append, hol]; rfl, F.out, Rr.1, Rr.2⟩
   have HZ := Lib.hid Z
   clear hown1 hgrow hat hlt1 hO hO2 Rr Z
   go_wp2
   go_ret
   exact HZ.out
end Go.Proofs.YtdajgcgliidjbaaGreat
namespace Go.Proofs.YtdajgcgliidjbaaGreat
open Go.RowKit
theorem lV_div {l : List Nat} (h : Limbs l) (k : Nat) : lV l / 16777216 ^ k = lV (l.drop k) := by
 have hp : 0 < 16777216 ^ k := Nat.pow_pos (by omega)
 by_cases hk : k ≤ l.length
 ·rw [lV_split l k, Nat.min_eq_left hk, Nat.add_mul_div_left _ _ hp]
  have := lV_lt (h.take k)
  rw [List.length_take, Nat.min_eq_left hk] at this
  rw [Nat.div_eq_of_lt this]; omega
 ·rw [List.drop_of_length_le (by omega)]
  have := lV_lt h
  have : 16777216 ^ l.length ≤ 16777216 ^ k := Nat.pow_le_pow_right (by omega) (by omega)
  rw [Nat.div_eq_of_lt (by omega)]; rfl
theorem lV_dig {l : List Nat} (h : Limbs l) (k : Nat) : lV l / 16777216 ^ k = l.getD k 0 + 16777216 * (lV l / 16777216 ^ (k + 1)) := by
 rw [lV_div h, lV_div h]
 by_cases hk : k < l.length
 ·rw [List.drop_eq_getElem_cons hk, lV_cons, getD_eq hk]
 ·rw [List.drop_of_length_le (by omega), List.drop_of_length_le (by omega), List.getD_eq_getElem?_getD, List.getElem?_eq_none (by omega)]; rfl
theorem high_zero {l : List Nat} (h : Limbs l) {m : Nat} (hl : lV l < 16777216 ^ m) {k : Nat} (hk : m ≤ k) : l.getD k 0 = 0 := by
 have e := lV_dig h k
 have : 16777216 ^ m ≤ 16777216 ^ k := Nat.pow_le_pow_right (by omega) hk
 rw [Nat.div_eq_of_lt (by omega)] at e
 omega
theorem lV_zeros {l : List Nat} (h : ∀ x ∈ l, x = 0) : lV l = 0 := by
 induction l with
 | nil => rfl
 | cons x r ih => rw [lV_cons, h x (by simp), ih (fun y hy => h y (by simp [hy]))]
theorem low_of_zero {l : List Nat} (h : Limbs l) {m : Nat} (hz : ∀ k, m ≤ k → l.getD k 0 = 0) : lV l < 16777216 ^ m := by
 have hp : 0 < 16777216 ^ m := Nat.pow_pos (by omega)
 have e := lV_div h m
 have z : lV (l.drop m) = 0 := lV_zeros fun x hx => by
  obtain ⟨i, hi, rfl⟩ := List.getElem_of_mem hx
  rw [List.length_drop] at hi
  have := hz (m + i) (by omega)
  rw [getD_eq (by omega)] at this
  rw [List.getElem_drop]; exact this
 rw [z] at e
 rcases Nat.lt_or_ge (lV l) (16777216 ^ m) with h | h
 ·exact h
 ·have := Nat.div_pos h hp; omega
structure Top (X V P top u3 v1 v2 : Nat) : Prop where
 hP : 0 < P
 hX : X / P = top * 16777216 + u3
 hV : V / P = v1 * 16777216 + v2
 h1 : 8388608 ≤ v1
 h1' : v1 < 16777216
 h2 : v2 < 16777216
 h3 : u3 < 16777216
 hlt : X < V * 16777216
namespace Top
variable {X V P top u3 v1 v2 : Nat}
theorem Vpos (t : Top X V P top u3 v1 v2) : P * 16777216 ≤ V := by
 have := Nat.div_mul_le_self V P
 rw [t.hV] at this
 have h : 16777216 * P ≤ (v1 * 16777216 + v2) * P := Nat.mul_le_mul_right _ (by have := t.h1; omega)
 rw [Nat.mul_comm P]; omega
theorem Vpos' (t : Top X V P top u3 v1 v2) : 0 < V := by have := t.Vpos; have := t.hP; omega
theorem qd (t : Top X V P top u3 v1 v2) : X / V < 16777216 := (Nat.div_lt_iff_lt_mul t.Vpos').2 (by rw [Nat.mul_comm]; exact t.hlt)
theorem VD (t : Top X V P top u3 v1 v2) : (v1 * 16777216 + v2) * P ≤ V := by rw [← t.hV]; exact Nat.div_mul_le_self V P
theorem VD' (t : Top X V P top u3 v1 v2) : V < (v1 * 16777216 + v2 + 1) * P := by
 rw [← t.hV]; have := Nat.div_add_mod V P; have := Nat.mod_lt V t.hP; rw [Nat.add_mul, Nat.mul_comm (V / P)]; omega
theorem XT (t : Top X V P top u3 v1 v2) : (top * 16777216 + u3) * P ≤ X := by rw [← t.hX]; exact Nat.div_mul_le_self X P
theorem XT' (t : Top X V P top u3 v1 v2) : X < (top * 16777216 + u3 + 1) * P := by
 rw [← t.hX]; have := Nat.div_add_mod X P; have := Nat.mod_lt X t.hP; rw [Nat.add_mul, Nat.mul_comm (X / P)]; omega
theorem qT (t : Top X V P top u3 v1 v2) : X / V * (v1 * 16777216 + v2) ≤ top * 16777216 + u3 := by
 have a := Nat.div_mul_le_self X V
 have b := Nat.mul_le_mul_left (X / V) t.VD
 have c := t.XT'
 rw [← Nat.mul_assoc] at b
 have : X / V * (v1 * 16777216 + v2) * P < (top * 16777216 + u3 + 1) * P := by omega
 have := Nat.lt_of_mul_lt_mul_right this
 omega
theorem q1 (t : Top X V P top u3 v1 v2) : X / V * v1 ≤ top := by
 have a := t.qT
 have h3 := t.h3
 rw [Nat.mul_add, ← Nat.mul_assoc] at a
 generalize X / V * v1 = p at *
 generalize X / V * v2 = p2 at *
 omega
theorem top_lt (t : Top X V P top u3 v1 v2) : top < v1 * 16777216 + 16777216 := by
 have a := t.XT
 have b := t.VD'
 have c := t.hlt
 have d : V * 16777216 < (v1 * 16777216 + v2 + 1) * P * 16777216 := Nat.mul_lt_mul_of_pos_right b (by omega)
 have e : (top * 16777216 + u3) * P < (v1 * 16777216 + v2 + 1) * 16777216 * P := by rw [Nat.mul_right_comm]; omega
 have := Nat.lt_of_mul_lt_mul_right e
 have := t.h2
 omega
theorem more (t : Top X V P top u3 v1 v2) {g r : Nat} (h : g * v1 + r = top) (h2 : r * 16777216 + u3 < g * v2) : X / V < g := by
 have e : top * 16777216 + u3 < g * (v1 * 16777216 + v2) := by
  have h' : g * v1 * 16777216 + r * 16777216 = top * 16777216 := by rw [← Nat.add_mul, h]
  rw [Nat.mul_add, ← Nat.mul_assoc, ← h', Nat.add_assoc]
  exact Nat.add_lt_add_left h2 _
 exact Nat.lt_of_mul_lt_mul_right (Nat.lt_of_le_of_lt t.qT e)
theorem less (t : Top X V P top u3 v1 v2) {g r : Nat} (h : g * v1 + r = top) (hg : g ≤ 16777216) (h2 : g * v2 ≤ r * 16777216 + u3) : g ≤ X / V + 1 := by
 have e : g * (v1 * 16777216 + v2) ≤ top * 16777216 + u3 := by
  have h' : g * v1 * 16777216 + r * 16777216 = top * 16777216 := by rw [← Nat.add_mul, h]
  rw [Nat.mul_add, ← Nat.mul_assoc, ← h', Nat.add_assoc]
  exact Nat.add_le_add_left h2 _
 have a := Nat.le_trans (Nat.mul_le_mul_right P e) t.XT
 have b : g * V < g * ((v1 * 16777216 + v2 + 1) * P) ∨ g = 0 := by
  rcases Nat.eq_zero_or_pos g with h | h
  ·exact .inr h
  ·exact .inl (Nat.mul_lt_mul_of_pos_left t.VD' h)
 rcases b with b | b
 ·have c : g * P ≤ 16777216 * P := Nat.mul_le_mul_right _ hg
  have d : g * ((v1 * 16777216 + v2 + 1) * P) = g * (v1 * 16777216 + v2) * P + g * P := by rw [Nat.add_mul _ 1 P, Nat.one_mul, Nat.mul_add, ← Nat.mul_assoc]
  have f := t.Vpos
  rw [Nat.mul_comm P] at f
  have hx := Nat.lt_div_mul_add (a := X) t.Vpos'
  have : g * V < (X / V + 2) * V := by
   rw [Nat.add_mul]
   generalize X / V * V = z at *
   generalize g * V = z2 at *
   generalize g * P = z3 at *
   generalize g * (v1 * 16777216 + v2) * P = z4 at *
   omega
  have := Nat.lt_of_mul_lt_mul_right this
  omega
 ·rw [b]; exact Nat.zero_le _
theorem past (t : Top X V P top u3 v1 v2) {g r : Nat} (h : g * v1 + r = top) (hr : 16777216 ≤ r) (hg : g ≤ 16777216) : g ≤ X / V := by
 rw [Nat.le_div_iff_mul_le t.Vpos']
 have a := t.XT
 have b : V ≤ (v1 + 1) * 16777216 * P := by
  have := t.VD'
  have h2 := t.h2
  have : (v1 * 16777216 + v2 + 1) * P ≤ (v1 + 1) * 16777216 * P := Nat.mul_le_mul_right _ (by omega)
  omega
 have c := Nat.mul_le_mul_left g b
 have d : g * ((v1 + 1) * 16777216 * P) ≤ top * 16777216 * P := by
  rw [← Nat.mul_assoc, ← Nat.mul_assoc]
  refine Nat.mul_le_mul_right _ (Nat.mul_le_mul_right _ ?_)
  rw [Nat.mul_add]; omega
 have e : top * 16777216 * P ≤ (top * 16777216 + u3) * P := Nat.mul_le_mul_right _ (by omega)
 omega
theorem first (t : Top X V P top u3 v1 v2) : X / V ≤ top / v1 ∧ top / v1 ≤ 16777217 := by
 have h1 := t.h1
 refine ⟨(Nat.le_div_iff_mul_le (by omega)).2 t.q1, ?_⟩
 have := (Nat.div_lt_iff_lt_mul (k := v1) (x := top) (y := 16777218) (by omega)).2 (by have := t.top_lt; omega)
 omega
end Top
end Go.Proofs.YtdajgcgliidjbaaGreat
namespace Go.Proofs.YtdajgcgliidjbaaGreat
open Go.RowKit
structure DivRel (u0 : Nat) (v : List Nat) (n j m : Nat) (U q : List Nat) : Prop where
 lU : Limbs U
 lq : Limbs q
 nU : U.length = m + n
 nq : q.length = m
 sum : u0 = lV v * lV q + lV U
 lt : lV U < lV v * 16777216 ^ j
 zero : ∀ k, k < j → q.getD k 0 = 0
structure Dvr (v : List Nat) (n : Nat) : Prop where
 lv : Limbs v
 nv : v.length = n
 two : 2 ≤ n
 top : 8388608 ≤ v.getD (n - 1) 0
theorem Dvr.lt {v : List Nat} {n : Nat} (d : Dvr v n) : lV v < 16777216 ^ n := by have := lV_lt d.lv; rw [d.nv] at this; exact this
theorem window {u0 n j m : Nat} {v U q : List Nat} (d : Dvr v n) (r : DivRel u0 v n (j + 1) m U q) : lV U < 16777216 ^ (j + n + 1) := by
 have a := r.lt
 have b := Nat.mul_lt_mul_of_pos_right d.lt (Nat.pow_pos (n := j + 1) (show 0 < 16777216 by omega))
 rw [← Nat.pow_add, show n + (j + 1) = j + n + 1 from by omega] at b
 omega
theorem top_of {u0 n j m : Nat} {v U q : List Nat} (d : Dvr v n) (r : DivRel u0 v n (j + 1) m U q) :
  Top (lV U / 16777216 ^ j) (lV v) (16777216 ^ (n - 2)) (U.getD (j + n) 0 * 16777216 + U.getD (j + n - 1) 0) (U.getD (j + n - 2) 0) (v.getD (n - 1) 0) (v.getD (n - 2) 0) := by
 have h2 := d.two
 have w := window d r
 refine ⟨Nat.pow_pos (by omega), ?_, ?_, d.top, getD_lt d.lv _, getD_lt d.lv _, getD_lt r.lU _, ?_⟩
 ·rw [Nat.div_div_eq_div_mul, ← Nat.pow_add]
  have e1 := lV_dig r.lU (j + (n - 2))
  have e2 := lV_dig r.lU (j + (n - 2) + 1)
  have e3 := lV_dig r.lU (j + (n - 2) + 1 + 1)
  rw [show j + (n - 2) + 1 + 1 + 1 = j + n + 1 from by omega, Nat.div_eq_of_lt w] at e3
  rw [e1, e2, e3, show j + (n - 2) + 1 + 1 = j + n from by omega, show j + (n - 2) + 1 = j + n - 1 from by omega, show j + (n - 2) = j + n - 2 from by omega]
  generalize U.getD (j + n) 0 = a
  generalize U.getD (j + n - 1) 0 = b
  generalize U.getD (j + n - 2) 0 = c
  omega
 ·have e1 := lV_dig d.lv (n - 2)
  have e2 := lV_dig d.lv (n - 2 + 1)
  rw [show n - 2 + 1 + 1 = n from by omega, Nat.div_eq_of_lt d.lt] at e2
  rw [e1, e2, show n - 2 + 1 = n - 1 from by omega]
  generalize v.getD (n - 1) 0 = a
  generalize v.getD (n - 2) 0 = b
  omega
 ·rw [Nat.div_lt_iff_lt_mul (Nat.pow_pos (by omega)), Nat.mul_assoc, ← Nat.pow_succ']
  exact r.lt
def MS (U v : List Nat) (j g i br : Nat) (Q : List Nat) : Prop :=
 Limbs Q ∧ Q.length = U.length ∧ lV Q + g * 16777216 ^ j * lV (v.take i) = lV U + 16777216 ^ (j + i) * br ∧ br ≤ g ∧ ∀ k, j + i ≤ k → Q.getD k 0 = U.getD k 0
theorem MS.start {U v : List Nat} (h : Limbs U) (j g : Nat) : MS U v j g 0 0 U := ⟨h, rfl, by simp [lV], Nat.zero_le _, fun _ _ => rfl⟩
theorem MS.next {U v Q : List Nat} {j g i br y br' : Nat} (h : MS U v j g i br Q) (lv : Limbs v) (hk : j + i < Q.length) (hy : y < 16777216)
  (hn : Q.getD (j + i) 0 + 16777216 * br' = g * v.getD i 0 + br + y) : MS U v j g (i + 1) br' (Q.set (j + i) y) := by
 obtain ⟨h1, h2, h3, h4, h5⟩ := h
 refine ⟨h1.set _ hy, by simp [h2], ?_, ?_, fun k hk2 => by rw [getD_set_ne _ (by omega)]; exact h5 k (by omega)⟩
 ·have hs := lV_set Q (j + i) y hk
  have e : 16777216 ^ (j + i) * (Q.getD (j + i) 0 + 16777216 * br') = 16777216 ^ (j + i) * (g * v.getD i 0 + br + y) := by rw [hn]
  rw [lV_take_succ, Nat.mul_add]
  have e2 : g * 16777216 ^ j * (16777216 ^ i * v.getD i 0) = 16777216 ^ (j + i) * (g * v.getD i 0) := by
   rw [Nat.pow_add]; simp only [Nat.mul_assoc, Nat.mul_comm, Nat.mul_left_comm]
  have e3 : 16777216 ^ (j + (i + 1)) * br' = 16777216 ^ (j + i) * (16777216 * br') := by rw [← Nat.add_assoc, Nat.pow_succ, Nat.mul_assoc]
  rw [Nat.mul_add, Nat.mul_add, Nat.mul_add] at e
  rw [e2, e3]
  generalize 16777216 ^ (j + i) * (g * v.getD i 0) = z1 at *
  generalize 16777216 ^ (j + i) * (16777216 * br') = z2 at *
  generalize 16777216 ^ (j + i) * y = z3 at *
  generalize 16777216 ^ (j + i) * br = z4 at *
  generalize 16777216 ^ (j + i) * Q.getD (j + i) 0 = z5 at *
  generalize g * 16777216 ^ j * lV (v.take i) = z6 at *
  omega
 ·have hv := getD_lt lv i
  have : g * v.getD i 0 ≤ g * 16777215 := Nat.mul_le_mul_left _ (by omega)
  omega
def AB (Q v : List Nat) (j i c : Nat) (R : List Nat) : Prop := MulIn (List.replicate (j + 1) 1) v j Q i c R
theorem one_at (j : Nat) : (List.replicate (j + 1) 1).getD j 0 = 1 := by
 rw [List.getD_eq_getElem?_getD, List.getElem?_replicate]; simp
theorem AB.start {Q v : List Nat} (h : Limbs Q) (j : Nat) : AB Q v j 0 0 Q := ⟨h, rfl, by simp [lV], fun _ _ => rfl⟩
theorem AB.next {Q v R : List Nat} {j i c n : Nat} (h : AB Q v j i c R) (hk : j + i < R.length) (hn : n = R.getD (j + i) 0 + v.getD i 0 + c) : AB Q v j (i + 1) (n / 16777216) (R.set (j + i) (n % 16777216)) :=
 MulIn.next h hk (by rw [one_at, hn, Nat.one_mul])
def Left1 (U v : List Nat) (j g : Nat) (R : List Nat) : Prop := Limbs R ∧ R.length = U.length ∧ lV R + lV v * (16777216 ^ j * g) = lV U ∧ lV R < lV v * 16777216 ^ j
theorem MS.low {u0 n j m g br : Nat} {v U q Q : List Nat} (d : Dvr v n) (r : DivRel u0 v n (j + 1) m U q) (h : MS U v j g (n + 1) br Q) :
  lV Q < 16777216 ^ (j + n + 1) ∧ lV Q + g * 16777216 ^ j * lV v = lV U + 16777216 ^ (j + n + 1) * br := by
 obtain ⟨h1, h2, h3, h4, h5⟩ := h
 have w := window d r
 refine ⟨low_of_zero h1 fun k hk => by rw [h5 k (by omega)]; exact high_zero r.lU w hk, ?_⟩
 rw [List.take_of_length_le (by rw [d.nv]; omega)] at h3
 exact h3
theorem fits {u0 n j m : Nat} {v U q : List Nat} (d : Dvr v n) (r : DivRel u0 v n (j + 1) m U q) {X : Nat} (hX : X = lV U / 16777216 ^ j) :
  lV v * (16777216 ^ j * (X / lV v)) ≤ lV U ∧ lV U < lV v * (16777216 ^ j * (X / lV v)) + lV v * 16777216 ^ j ∧ 0 < lV v := by
 have hv : 0 < lV v := (top_of d r).Vpos'
 have hp : 0 < 16777216 ^ j := Nat.pow_pos (by omega)
 have a := Nat.div_add_mod X (lV v)
 have b := Nat.mod_lt X hv
 have c := Nat.div_add_mod (lV U) (16777216 ^ j)
 have e := Nat.mod_lt (lV U) hp
 rw [← hX] at c
 have f : lV v * (16777216 ^ j * (X / lV v)) = 16777216 ^ j * (lV v * (X / lV v)) := by rw [Nat.mul_left_comm]
 rw [f, Nat.mul_comm (lV v) (16777216 ^ j)]
 have g1 : 16777216 ^ j * (lV v * (X / lV v)) + 16777216 ^ j * (X % lV v) = 16777216 ^ j * X := by rw [← Nat.mul_add, a]
 have g2 : 16777216 ^ j * (X % lV v + 1) ≤ 16777216 ^ j * lV v := Nat.mul_le_mul_left _ b
 rw [Nat.mul_add, Nat.mul_one] at g2
 generalize 16777216 ^ j * (lV v * (X / lV v)) = z1 at *
 generalize 16777216 ^ j * (X % lV v) = z2 at *
 generalize 16777216 ^ j * X = z3 at *
 generalize 16777216 ^ j * lV v = z4 at *
 generalize lV U % 16777216 ^ j = z5 at *
 generalize 16777216 ^ j = z6 at *
 exact ⟨by omega, by omega, hv⟩
theorem step_right {u0 n j m g : Nat} {v U q Q : List Nat} (d : Dvr v n) (r : DivRel u0 v n (j + 1) m U q) (h : MS U v j g (n + 1) 0 Q) (hg : lV U / 16777216 ^ j / lV v ≤ g) :
  g = lV U / 16777216 ^ j / lV v ∧ Left1 U v j g Q := by
 obtain ⟨lo, e⟩ := h.low d r
 obtain ⟨f1, f2, hv⟩ := fits d r rfl
 have e' : lV Q + lV v * (16777216 ^ j * g) = lV U := by
  rw [Nat.mul_zero, Nat.add_zero] at e
  rw [← e]; congr 1; rw [Nat.mul_comm g, Nat.mul_comm (lV v)]
 have hq : g = lV U / 16777216 ^ j / lV v := by
  refine Nat.le_antisymm ?_ hg
  rw [Nat.le_div_iff_mul_le hv, Nat.le_div_iff_mul_le (Nat.pow_pos (by omega))]
  have : g * lV v * 16777216 ^ j = lV v * (16777216 ^ j * g) := by simp only [Nat.mul_assoc, Nat.mul_comm, Nat.mul_left_comm]
  rw [this]; omega
 refine ⟨hq, h.1, h.2.1, e', ?_⟩
 rw [← hq] at f2
 omega
theorem step_back {u0 n j m g br c : Nat} {v U q Q R : List Nat} (d : Dvr v n) (r : DivRel u0 v n (j + 1) m U q) (h : MS U v j g (n + 1) br Q) (hbr : 0 < br)
  (hg2 : g ≤ lV U / 16777216 ^ j / lV v + 1) (ha : AB Q v j (n + 1) c R) : g = lV U / 16777216 ^ j / lV v + 1 ∧ Left1 U v j (g - 1) R := by
 obtain ⟨lo, e⟩ := h.low d r
 obtain ⟨f1, f2, hv⟩ := fits d r rfl
 have w := window d r
 have hp : 0 < 16777216 ^ j := Nat.pow_pos (by omega)
 generalize hqd : lV U / 16777216 ^ j / lV v = qd at *
 have hlow : g * 16777216 ^ j * lV v = lV v * (16777216 ^ j * g) := by simp only [Nat.mul_assoc, Nat.mul_comm]
 rw [hlow] at e
 have hge : 16777216 ^ (j + n + 1) * 1 ≤ 16777216 ^ (j + n + 1) * br := Nat.mul_le_mul_left _ hbr
 have hq : g = qd + 1 := by
  refine Nat.le_antisymm hg2 ?_
  rcases Nat.lt_or_ge qd g with h | h
  ·exact h
  ·exfalso
   have : lV v * (16777216 ^ j * g) ≤ lV v * (16777216 ^ j * qd) := Nat.mul_le_mul_left _ (Nat.mul_le_mul_left _ h)
   omega
 refine ⟨hq, ?_⟩
 obtain ⟨a1, a2, a3, a4⟩ := ha
 have aw : lV R < 16777216 ^ (j + n + 1) := low_of_zero a1 fun k hk => by
  rw [a4 k (by omega), h.2.2.2.2 k (by omega)]; exact high_zero r.lU w hk
 rw [one_at, Nat.one_mul, List.take_of_length_le (by rw [d.nv]; omega), ← Nat.add_assoc] at a3
 subst hq
 rw [Nat.add_sub_cancel]
 have ee : lV v * (16777216 ^ j * (qd + 1)) = lV v * (16777216 ^ j * qd) + lV v * 16777216 ^ j := by rw [Nat.mul_add, Nat.mul_one, Nat.mul_add]
 rw [ee] at e
 rw [Nat.mul_comm (16777216 ^ j) (lV v)] at a3
 have hvB : lV v * 16777216 ^ j ≤ 16777216 ^ (j + n + 1) := by
  have := Nat.mul_le_mul_right (16777216 ^ j) (Nat.le_of_lt d.lt)
  rw [← Nat.pow_add] at this
  have h2 : 16777216 ^ (n + j) ≤ 16777216 ^ (j + n + 1) := Nat.pow_le_pow_right (by omega) (by omega)
  omega
 obtain ⟨S, hS⟩ : ∃ S, lV U = lV v * (16777216 ^ j * qd) + S := ⟨lV U - lV v * (16777216 ^ j * qd), by omega⟩
 have hSlt : S < 16777216 ^ (j + n + 1) := by omega
 have key : lV R + 16777216 ^ (j + n + 1) * c = S + 16777216 ^ (j + n + 1) * br := by omega
 have hRS : lV R = S := by
  have k1 := congrArg (· % 16777216 ^ (j + n + 1)) key
  simp only [Nat.add_mul_mod_self_left] at k1
  rw [Nat.mod_eq_of_lt aw, Nat.mod_eq_of_lt hSlt] at k1
  exact k1
 exact ⟨a1, by rw [a2, h.2.1], by omega, by omega⟩
theorem DivRel.next {u0 n j m g : Nat} {v U q R : List Nat} (r : DivRel u0 v n (j + 1) m U q) (hj : j < m) (h : Left1 U v j g R) (hg : g < 16777216) : DivRel u0 v n j m R (q.set j g) := by
 obtain ⟨h1, h2, h3, h4⟩ := h
 have hs := lV_set q j g (by rw [r.nq]; exact hj)
 rw [r.zero j (by omega), Nat.mul_zero, Nat.add_zero] at hs
 refine ⟨h1, r.lq.set _ hg, by rw [h2, r.nU], by rw [List.length_set, r.nq], ?_, h4, fun k hk => by rw [getD_set_ne _ (by omega)]; exact r.zero k (by omega)⟩
 rw [r.sum, hs, Nat.mul_add]
 generalize lV v * (16777216 ^ j * g) = z at *
 generalize lV v * lV q = z2 at *
 omega
theorem DivRel.done {u0 n m : Nat} {v U q : List Nat} (r : DivRel u0 v n 0 m U q) : lV q = u0 / lV v ∧ lV U = u0 % lV v := by
 have h := r.lt
 rw [Nat.pow_zero, Nat.mul_one] at h
 have s := r.sum
 have hv : 0 < lV v := by omega
 constructor
 ·rw [s, Nat.mul_add_div hv, Nat.div_eq_of_lt h]; omega
 ·rw [s, Nat.mul_add_mod, Nat.mod_eq_of_lt h]
end Go.Proofs.YtdajgcgliidjbaaGreat
namespace Go.Proofs.YtdajgcgliidjbaaGreat
open Go.RowKit
def DivPost (va vb : Nat) (w : World) (e : Ending) (w' : World) : Prop :=
 ∃ A ca lq B cb lr, e = .returned (.tuple #[.slice A (List.length lq) ca, .slice B (List.length lr) cb]) ∧ InP (va / vb) lq ∧ InP (va % vb) lr ∧ RowN w' w.heap.size A ca lq ∧ RowN w' w.heap.size B cb lr ∧ Below w.heap.size w w'
theorem two_rows (w w1 : World) (b : Below w.heap.size w w1) : RowN ((w1.alloc (.cells #[] 3)).alloc (.cells #[] 3)) w.heap.size (some ⟨w1.heap.size, 0, none⟩) 0 [] ∧
  ((w1.alloc (.cells #[] 3)).alloc (.cells #[] 3)).ownsRow (w1.heap.size + 1) 3 1 (.slice (some ⟨w1.heap.size + 1, 0, none⟩) 0 0) 0 [] ∧
  Below w.heap.size w ((w1.alloc (.cells #[] 3)).alloc (.cells #[] 3)) := by
 have h1 : RowN (w1.alloc (.cells #[] 3)) w.heap.size (some ⟨w1.heap.size, 0, none⟩) 0 [] := World.ownsRow_made _ #[] 0 b.size (by decide) rfl
 refine ⟨h1.below ((Below.refl _ _).alloc (Nat.le_refl _) _), ?_, (b.alloc b.size _).alloc (b.alloc b.size _).size _⟩
 have := World.ownsRow_made (base := w1.heap.size + 1) (e := 3) (size := 1) (w1.alloc (.cells #[] 3)) #[] 0 (by simp) (by decide) rfl
 rw [World.size_alloc] at this
 exact this
theorem RowN.nil_form {w : World} {b cap : Nat} {A : Option Addr} (h : RowN w b A cap []) : A = none ∧ cap = 0 ∨ ∃ g, A = some ⟨g, 0, none⟩ := by
 rcases h.2 with ⟨h1, _⟩ | ⟨g, cp, cur, hv, _⟩
 ·injection h1 with e1 e2 e3; exact .inl ⟨e1, e3⟩
 ·injection hv with e1 e2 e3; exact .inr ⟨g, e1⟩
theorem natV_one (l : List Nat) : ∀ u ∈ natV l, u.oneCell' = true := by
 intro u hu
 obtain ⟨x, _, rfl⟩ := List.mem_map.1 hu
 rfl
theorem div_less (b1 b2 ca cb : Nat) (A B : Option Addr) (la lb : List Nat) (w : World) (ha : RowN w b1 A ca la) (hb : RowN w b2 B cb lb) (La : Limbs la) (Lb : Limbs lb) (ta : Trimmed la) (tb : Trimmed lb) (hla : la.length ≤ 400000) (hlt : lV la < lV lb) :
  Calls Tryz.prog 137 #[.slice A la.length ca, .slice B lb.length cb] w (DivPost (lV la) (lV lb) w) := by
 obtain ⟨i0, hi, hz0, hz1, hz2⟩ := info_parts Tryz.infoI
 have hc := cmp_any b1 b2 ca cb A B la lb w ha hb La Lb ta tb (by omega)
 rw [show cmpI (lV la) (lV lb) = -1 from by unfold cmpI; rw [if_pos hlt]] at hc
 have HC := Lib.hid hc
 have HA := Lib.hid ha
 have HP : Hid (InP (lV la % lV lb) la ∧ InP (lV la / lV lb) []) := ⟨⟨La, ta, (Nat.mod_eq_of_lt hlt).symm⟩, ⟨Limbs.nil, .inl rfl, (Nat.div_eq_of_lt hlt).symm⟩⟩
 clear hc ha hb La Lb ta tb hlt
 obtain ⟨na, hna⟩ : ∃ n, la.length = n := ⟨_, rfl⟩
 obtain ⟨nb, hnb⟩ : ∃ n, lb.length = n := ⟨_, rfl⟩
 rw [hna] at hla
 rw [hna, hnb] at HC ⊢
 have HNA := Lib.hid hna
 clear hna hnb
 go_enter Tryz.func137, Tryz.ntmps137
 go_wp2_with fail
 refine HC.out.mono ?_
 rintro e w1 ⟨rfl, b⟩
 obtain ⟨r1, r2, r3⟩ := two_rows w w1 b
 have R1 := Lib.hid r1
 have R2 := Lib.hid r2
 have R3 := Lib.hid r3
 clear r1 r2 r3
 by_cases h0 : na = 0
 ·have hl : la = [] := List.eq_nil_of_length_eq_zero (by rw [HNA.out]; exact h0)
  have Z : DivPost (lV la) (lV lb) w (.returned (.tuple #[.slice (some ⟨w1.heap.size, 0, none⟩) 0 0, .slice (some ⟨w1.heap.size + 1, 0, none⟩) 0 0])) ((w1.alloc (.cells #[] 3)).alloc (.cells #[] 3)) := by
   refine ⟨_, 0, [], _, 0, la, by rw [hl]; rfl, HP.out.2, HP.out.1, R1.out, ?_, R3.out⟩
   rw [hl]
   exact RowN.base (b := w1.heap.size + 1) R2.out (by have := b.size; omega)
  have hA := HA.out
  rw [hl] at hA
  have hf := hA.nil_form
  have HZ := Lib.hid Z
  subst h0
  clear Z hA hl HA HP R1 R2 R3 HC
  rcases hf with ⟨rfl, rfl⟩ | ⟨g, rfl⟩
  ·go_wp2
   go_ret2
   exact HZ.out
  ·go_wp2
   go_ret2
   exact HZ.out
 ·have hn0 : 0 < na := by omega
  obtain ⟨g, rfl, _, hgl⟩ := HA.out.form (by rw [HNA.out]; exact hn0)
  have hnews : Hid (∀ j u, (natV la)[j]? = some u → ((w1.alloc (.cells #[] 3)).alloc (.cells #[] 3)).cell? ((⟨g, 0, none⟩ : Addr).add j) = some u) := by
   intro j u hj
   have hjl : j < la.length := by
    rcases Nat.lt_or_ge j la.length with h | h
    ·exact h
    ·rw [List.getElem?_eq_none (by rw [natV_length]; exact h)] at hj; cases hj
   obtain ⟨g', e, _, _, hc, _⟩ := (HA.out.below R3.out).at_ hjl
   injection e with e; injection e with e1; subst e1
   have e2 : (⟨g, 0, none⟩ : Addr).add j = ⟨g, j, none⟩ := by unfold Addr.add; split <;> simp_all
   rw [e2, hc, ← hj]
   simp [natV, hjl]
  have hbs := b.size
  have hlen : Hid ((natV la).length = na * 1) := by show _ = _; rw [natV_length, HNA.out]; omega
  go_wp2_with (at_builtin; refine wpList_append_lies _ rfl (.tmp 34) (.tmp 35) _ rfl (w1.heap.size + 1) 3 i0 (.int .i64 0) 1 8 Tryz.underlying57 hi hz0 hz1 hz2 rfl (by omega) _ 0 _ rfl R2.out ⟨g, 0, none⟩ na ca (natV la) rfl hlen.out hnews.out (natV_one la) hn0 (by unfold maxLen; omega) (by omega) (by simp) _ rfl ?_)
  intro g2 cp w2 hown1 hgrow hat hlt1
  have Z : DivPost (lV la) (lV lb) w (.returned (.tuple #[.slice (some ⟨w1.heap.size, 0, none⟩) 0 0, .slice (some ⟨g2, 0, none⟩) na cp])) w2 := by
   refine ⟨_, 0, [], _, cp, la, by rw [HNA.out]; rfl, HP.out.2, HP.out.1, ?_, ?_, ?_⟩
   ·have h1 : RowN (w1.alloc (.cells #[] 3)) w.heap.size (some ⟨w1.heap.size, 0, none⟩) 0 [] := World.ownsRow_made _ #[] 0 b.size (by decide) rfl
    have h2 : Below (w1.alloc (.cells #[] 3)).heap.size (w1.alloc (.cells #[] 3)) ((w1.alloc (.cells #[] 3)).alloc (.cells #[] 3)) := (Below.refl _ _).alloc (Nat.le_refl _) _
    exact h1.below (h2.grown hgrow (by simp) fun k hk => by have := (World.ownsRow.lt R2.out k hk).1; simpa using this)
   ·refine RowN.base (b := w1.heap.size + 1) ?_ (by omega)
    unfold RowN
    rw [HNA.out]
    exact hown1
   ·exact R3.out.grown hgrow R3.out.size fun k hk => by have := (World.ownsRow.lt R2.out k hk).1; omega
  have HZ := Lib.hid Z
  clear Z hown1 hgrow hat hlt1
  go_wp2
  go_ret2
  exact HZ.out
end Go.Proofs.YtdajgcgliidjbaaGreat
namespace Go.Proofs.YtdajgcgliidjbaaGreat
open Go.RowKit
def OneRel (la : List Nat) (d i r : Nat) (q : List Nat) : Prop := Limbs q ∧ q.length = la.length ∧ r < d ∧ lV (la.drop i) = d * lV (q.drop i) + r
theorem drop_set {q : List Nat} {k : Nat} (h : k < q.length) (y : Nat) : (q.set k y).drop k = y :: q.drop (k + 1) := by
 rw [List.drop_eq_getElem_cons (by simpa using h), List.getElem_set_self, List.drop_set_of_lt (by omega)]
theorem OneRel.next {la q : List Nat} {d i r x : Nat} (h : OneRel la d (i + 1) r q) (hi : i < la.length) (hd : d < 16777216) (La : Limbs la) (hx : x = 16777216 * r + la[i]) :
  OneRel la d i (x % d) (q.set i (x / d)) ∧ x / d < 16777216 := by
 obtain ⟨h1, h2, h3, h4⟩ := h
 have ha := La.get hi
 have hxd : x / d < 16777216 := (Nat.div_lt_iff_lt_mul (by omega)).2 (by omega)
 refine ⟨⟨h1.set _ hxd, by simp [h2], Nat.mod_lt _ (by omega), ?_⟩, hxd⟩
 rw [drop_set (by omega), lV_cons, List.drop_eq_getElem_cons hi, lV_cons, h4, Nat.mul_add, Nat.mul_add]
 have := Nat.div_add_mod x d
 have e : d * (16777216 * lV (q.drop (i + 1))) = 16777216 * (d * lV (q.drop (i + 1))) := by rw [Nat.mul_left_comm]
 rw [e]
 generalize d * lV (q.drop (i + 1)) = z at *
 generalize d * (x / d) = z2 at *
 omega
theorem OneRel.done {la q : List Nat} {d r : Nat} (h : OneRel la d 0 r q) : lV q = lV la / d ∧ r = lV la % d := by
 obtain ⟨_, _, h3, h4⟩ := h
 rw [List.drop_zero, List.drop_zero] at h4
 rw [h4]
 constructor
 ·rw [Nat.mul_add_div (by omega), Nat.div_eq_of_lt h3]; omega
 ·rw [Nat.mul_add_mod, Nat.mod_eq_of_lt h3]
theorem cmpI_ge {a b : Nat} (h : b ≤ a) : ¬ cmpI a b < 0 := by unfold cmpI; rw [if_neg (by omega)]; split <;> decide
theorem one_row (w w1 : World) (b : Below w.heap.size w w1) (r : Nat) : RowN (w1.alloc (.cells #[.int .i64 (r : Int)] 3)) w.heap.size (some ⟨w1.heap.size, 0, none⟩) 1 [r] :=
 ⟨by simp [natV], .inr ⟨w1.heap.size, 1, _, rfl, b.size, heap_alloc_new w1 _, by simp, by decide, rfl, by simp [natV]⟩⟩
theorem div_one (b1 b2 ca cb d : Nat) (A B : Option Addr) (la : List Nat) (w : World) (ha : RowN w b1 A ca la) (hb : RowN w b2 B cb [d]) (La : Limbs la) (Lb : Limbs [d]) (ta : Trimmed la) (tb : Trimmed [d]) (hla : la.length ≤ 400000) (hle : d ≤ lV la) (hd0 : 0 < d) :
  Calls Tryz.prog 137 #[.slice A la.length ca, .slice B 1 cb] w (DivPost (lV la) d w) := by
 obtain ⟨i0, hi, hz0, hz1, hz2⟩ := info_parts Tryz.infoI
 have hc := cmp_any b1 b2 ca cb A B la [d] w ha hb La Lb ta tb (by omega)
 have hd : d < 16777216 := Lb d (by simp)
 have hv1 : lV [d] = d := by simp [lV]
 rw [hv1] at hc
 have hcn := cmpI_ge hle
 generalize cmpI (lV la) d = cc at *
 have hcd : decide (cc < 0) = false := by simpa using hcn
 have HC := Lib.hid hc
 have HA := Lib.hid ha
 have HB := Lib.hid hb
 have HLA := Lib.hid La
 clear hc ha hb La Lb ta tb hle hv1
 obtain ⟨na, hna⟩ : ∃ n, la.length = n := ⟨_, rfl⟩
 rw [hna] at hla
 rw [hna] at HC ⊢
 have HNA := Lib.hid hna
 clear hna
 rw [show [d].length = 1 from rfl] at HC
 go_enter Tryz.func137, Tryz.ntmps137
 go_wp2_with fail
 refine HC.out.mono ?_
 rintro e w1 ⟨rfl, b⟩
 clear HC
 have hA1 := Lib.hid (HA.out.below b)
 have hB1 := Lib.hid (HB.out.below b)
 clear HA HB
 have hbs0 := b.size
 go_wp2_with (at_make; refine wpList_make_full _ rfl _ _ 57 rfl w.heap.size 3 i0 (.int .i64 0) 1 Tryz.underlying57 hi hz0 hz1 .i64 .i64 _ _ na rfl rfl (by omega) (by omega) (by rw [hz2]; omega) (by unfold maxLen; omega) (by omega) ?_; intro w0 hown0 hgrow0)
 have hb0 : Below w1.heap.size w1 w0 := (Below.refl _ _).grown hgrow0 (Nat.le_refl _) (fun k hk => by cases hk)
 have HO0 : Hid (w0.ownsRow w.heap.size 3 1 (.slice (some ⟨w1.heap.size, 0, none⟩) na na) na (natV (List.replicate na 0))) := by
  have e : natV (List.replicate na 0) = (madeCells (Value.cells (.int .i64 0)) (na * 1)).toList := by
   have := toList_madeCells_one (.int .i64 0) (na * 1)
   simp only [Value.cells] at this ⊢
   rw [this]
   simp [natV]
  show w0.ownsRow _ _ _ _ _ _
  rw [e]; exact hown0
 have HM0 : Hid (OneRel la d na 0 (List.replicate na 0)) := by
  refine ⟨fun x hx => by have := List.eq_of_mem_replicate hx; omega, by rw [List.length_replicate, HNA.out], hd0, ?_⟩
  rw [List.drop_of_length_le (by rw [HNA.out]; omega), List.drop_of_length_le (by simp)]; simp [lV]
 clear hown0 hgrow0
 have hdz : ((d : Int) == 0) = false := by simp; omega
 have hdz' : ¬ (d : Int) = 0 := by omega
 go_loopw [8, 9] (fun rv iv wr => ∃ (i r : Nat) (q : List Nat), i ≤ na ∧ r < d ∧ iv = .int .i64 ((i : Int) - 1) ∧ rv = .int .i64 r ∧ Hid (OneRel la d i r q) ∧ Hid (wr.ownsRow w.heap.size 3 1 (.slice (some ⟨w1.heap.size, 0, none⟩) na na) na (natV q)) ∧ Below w1.heap.size w1 wr) (fun _ iv _ => (intOf iv + 1).toNat)
 case atStart => exact ⟨na, 0, _, Nat.le_refl _, hd0, rfl, rfl, HM0, HO0, hb0⟩
 case round =>
  clear HO0 hb0 HM0
  obtain ⟨i, r, q, hin, hr, rfl, rfl, hR, hO, hb⟩ := hrel
  have hbs := hb.size
  by_cases h0 : 0 < i
  ·obtain ⟨k, rfl⟩ : ∃ k, i = k + 1 := ⟨i - 1, by omega⟩
   have hka : k < la.length := by rw [HNA.out]; omega
   have hki : (((k + 1 : Nat) : Int) - 1) = (k : Int) := by omega
   have hk0 : (0 : Int) ≤ (k : Int) := by omega
   have hkn : (k : Int) < (na : Int) := by omega
   obtain ⟨ga, rfl, _, _, c1, _⟩ := (hA1.out.below hb).at_ hka
   obtain ⟨gb, rfl, _, hgb, c2', _⟩ := hB1.out.at_ (k := 0) (by simp)
   rw [List.getElem_cons_zero] at c2'
   have c2 := (hb.cell (p := ⟨gb, 0, none⟩) hgb).trans c2'
   have hne : ¬ gb = w1.heap.size := by omega
   have hne2 : ¬ w1.heap.size = gb := by omega
   have hx := HLA.out.get hka
   have hql : q.length = na := by rw [hR.out.2.1, HNA.out]
   have N := hR.out.next (x := 16777216 * r + la[k]) hka hd HLA.out rfl
   have hkq : k < q.length := by omega
   have c3 : wr.cell? ⟨w1.heap.size, k, none⟩ = some (.int .i64 (q[k] : Int)) := by
    rw [hO.out.cellAt k (by omega)]
    simp [natV, hkq]
   have f3 := hO.out.frozenAt k
   have ho := orL24 r la[k] hx (by omega)
   have q1 : IntKind.i64.wrap (16777216 * (r : Int)) = 16777216 * (r : Int) := IntWalk.i64_in _ (by omega)
   have q2 : IntKind.i64.wrap ((r : Int) * 16777216) = 16777216 * (r : Int) := by rw [IntWalk.i64_in _ (by omega)]; omega
   obtain ⟨x, hxx⟩ : ∃ x, 16777216 * r + la[k] = x := ⟨_, rfl⟩
   rw [hxx] at N
   have ho2 : bits .or .i64 (16777216 * (r : Int)) (la[k] : Int) = (x : Int) := by rw [ho]; omega
   have hxb : x < 281474976710656 := by omega
   obtain ⟨y, hy⟩ : ∃ y, x / d = y := ⟨_, rfl⟩
   obtain ⟨z, hz⟩ : ∃ z, x % d = z := ⟨_, rfl⟩
   rw [hy, hz] at N
   have t1 : (x : Int) / (d : Int) = (y : Int) := by rw [← hy]; simp
   have t2 : (x : Int) % (d : Int) = (z : Int) := by rw [← hz]; simp
   have t3 : Int.tdiv (x : Int) (d : Int) = (y : Int) := by rw [Int.tdiv_eq_ediv_of_nonneg (by omega)]; exact t1
   have t4 : Int.tmod (x : Int) (d : Int) = (z : Int) := by rw [Int.tmod_eq_emod_of_nonneg (by omega)]; exact t2
   have hzd : z < d := N.1.2.2.1
   have hyb := N.2
   have HN := Lib.hid N.1
   have HS := Lib.hid (natV_stored hO.out k y)
   rw [hki]
   clear N ho hxx hy hz hki hR hO c2'
   go_wp2
   go_roundw
   case rel => exact ⟨k, z, q.set k y, by omega, hzd, by go_num, rfl, HN, HS, hb.setCell (p := ⟨w1.heap.size, k, none⟩) (Nat.le_refl _) _⟩
   case measure => simp [intOf]
  ·obtain rfl : i = 0 := by omega
   have h0' : ¬ (0 : Int) ≤ ((0 : Nat) : Int) - 1 := by omega
   have hql : q.length = na := by rw [hR.out.2.1, HNA.out]
   have hq : RowN wr w.heap.size (some ⟨w1.heap.size, 0, none⟩) na q := by unfold RowN; rw [hql]; exact hO.out
   have hbw : Below w.heap.size w wr := bt b hb
   have hT1 := trim_any _ na _ q wr hq (by omega)
   rw [hql] at hT1
   have h1 := one_row w wr hbw r
   have hT2 := trim_any _ 1 _ [r] _ h1 (by simp)
   rw [show [r].length = 1 from rfl] at hT2
   have HT1 := Lib.hid hT1
   have HT2 := Lib.hid hT2
   have HQ := Lib.hid (hq.below ((Below.refl _ _).alloc (Nat.le_refl _) (.cells #[.int .i64 (r : Int)] 3)))
   have HR1 := Lib.hid h1
   have HD := Lib.hid hR.out.done
   have HLQ := Lib.hid hR.out.1
   have HQL := Lib.hid hql
   have HB2 := Lib.hid (hbw.alloc hbw.size (.cells #[.int .i64 (r : Int)] 3))
   clear hT1 hT2 h1 hq hql hR hO hbw hA1 hB1
   go_wp2_with fail
   refine HT1.out.mono ?_
   rintro e w2 ⟨m1, hm1, rfl, rfl, hv1, ht1⟩
   go_wp2_with fail
   refine HT2.out.mono ?_
   rintro e w2 ⟨m2, hm2, rfl, rfl, hv2, ht2⟩
   have Z : DivPost (lV la) d w (.returned (.tuple #[.slice (some ⟨w1.heap.size, 0, none⟩) m1 na, .slice (some ⟨wr.heap.size, 0, none⟩) m2 1])) (wr.alloc (.cells #[.int .i64 (r : Int)] 3)) := by
    have hLr : Limbs [r] := fun x hx => by
     have : x = r := by simpa using hx
     omega
    have hL1 : (q.take m1).length = m1 := by rw [List.length_take]; omega
    have hL2 : ([r].take m2).length = m2 := by rw [List.length_take]; omega
    refine ⟨_, na, q.take m1, _, 1, [r].take m2, by rw [hL1, hL2], ⟨HLQ.out.take m1, ht1, by rw [hv1]; exact HD.out.1⟩, ⟨hLr.take m2, ht2, by rw [hv2, ← HD.out.2]; simp [lV]⟩, HQ.out.take hm1, HR1.out.take hm2, HB2.out⟩
   have HZ := Lib.hid Z
   clear Z hv1 ht1 hv2 ht2
   go_wp2
   go_ret2
   exact HZ.out
end Go.Proofs.YtdajgcgliidjbaaGreat
namespace Go.Proofs.YtdajgcgliidjbaaGreat
open Go.RowKit
def RowL (w : World) (base g cap n : Nat) (l : List Nat) : Prop := w.ownsRow base 3 1 (.slice (some ⟨g, 0, none⟩) n cap) n (natV l)
theorem RowL.length {w : World} {base g cap n : Nat} {l : List Nat} (h : RowL w base g cap n l) : l.length = n := by
 have := h.1; rw [natV_length] at this; omega
theorem RowL.cell {w : World} {base g cap n : Nat} {l : List Nat} (h : RowL w base g cap n l) {k : Nat} (hk : k < n) : w.cell? ⟨g, k, none⟩ = some (.int .i64 (l.getD k 0 : Int)) ∧ w.frozen? ⟨g, k, none⟩ = false := by
 have hl : k < l.length := by rw [h.length]; exact hk
 refine ⟨?_, World.ownsRow.frozenAt h k⟩
 rw [World.ownsRow.cellAt h k (by omega), getD_eq hl]
 simp [natV, hl]
theorem RowL.set {w : World} {base g cap n : Nat} {l : List Nat} (h : RowL w base g cap n l) (j y : Nat) : RowL (w.setCell ⟨g, j, none⟩ (.int .i64 (y : Int))) base g cap n (l.set j y) := natV_stored h j y
theorem RowL.other {w w' : World} {base g cap n : Nat} {l : List Nat} (h : RowL w base g cap n l) (e : w'.heap[g]? = w.heap[g]?) : RowL w' base g cap n l := by
 refine ⟨h.1, ?_⟩
 rcases h.2 with ⟨h', _⟩ | ⟨g', cap', cur, h', hb, hg, hr⟩
 ·simp at h'
 ·simp only [Value.slice.injEq, Option.some.injEq, Addr.mk.injEq, and_true, true_and] at h'
  obtain ⟨rfl, rfl⟩ := h'
  exact .inr ⟨g, cap, cur, rfl, hb, by rw [e]; exact hg, hr⟩
theorem RowL.ge {w : World} {base g cap n : Nat} {l : List Nat} (h : RowL w base g cap n l) : base ≤ g := (World.ownsRow.lt h g rfl).1
theorem RowL.lt {w : World} {base g cap n : Nat} {l : List Nat} (h : RowL w base g cap n l) : g < w.heap.size := (World.ownsRow.lt h g rfl).2
theorem RowL.rowN {w : World} {base g cap n : Nat} {l : List Nat} (h : RowL w base g cap n l) : RowN w base (some ⟨g, 0, none⟩) cap l := by
 have e := h.length
 unfold RowN; rw [e]; exact h
theorem RowN.rowL {w : World} {base cap : Nat} {A : Option Addr} {l : List Nat} (h : RowN w base A cap l) (h0 : 0 < l.length) : ∃ g, A = some ⟨g, 0, none⟩ ∧ RowL w base g cap l.length l := by
 obtain ⟨g, rfl, _⟩ := h.form h0
 exact ⟨g, rfl, h⟩
theorem RowL.base {w : World} {b b' g cap n : Nat} {l : List Nat} (h : RowL w b g cap n l) (hb : b' ≤ b) : RowL w b' g cap n l := by
 refine ⟨h.1, ?_⟩
 rcases h.2 with h | ⟨g, cp, cur, hv, hg, hh, h3⟩
 ·exact .inl h
 ·exact .inr ⟨g, cp, cur, hv, by omega, hh, h3⟩
theorem RowL.below {w w' : World} {b g cap n : Nat} {l : List Nat} (h : RowL w b g cap n l) (hb : Below w.heap.size w w') : RowL w' b g cap n l := h.other (hb.block g h.lt)
theorem made_row {w : World} {base g n : Nat} (h : w.ownsRow base 3 1 (.slice (some ⟨g, 0, none⟩) n n) n (madeCells (Value.cells (.int .i64 0)) (n * 1)).toList) : RowL w base g n n (List.replicate n 0) := by
 have e : natV (List.replicate n 0) = (madeCells (Value.cells (.int .i64 0)) (n * 1)).toList := by
  have := toList_madeCells_one (.int .i64 0) (n * 1)
  simp only [Value.cells] at this ⊢
  rw [this]
  simp [natV]
 unfold RowL
 rw [e]; exact h
theorem top_bd {x1 x2 top : Nat} (h : x1 * 16777216 + x2 = top) (h1 : x1 < 16777216) (h2 : x2 < 16777216) : top < 281474976710656 := by omega
theorem ms_step {a p br : Nat} (ha : a < 16777216) (hp : p ≤ 281474976710656) (hbr : br ≤ 16777217) : ∃ (X : Int) (y br' : Nat), (a : Int) - (p : Int) - (br : Int) = X ∧ X % 16777216 = (y : Int) ∧ X / 16777216 = -(br' : Int) ∧ y < 16777216 ∧ a + 16777216 * br' = p + br + y ∧
  IntKind.i64.wrap ((a : Int) - (p : Int)) = (a : Int) - (p : Int) ∧ IntKind.i64.wrap ((a : Int) - (p : Int) - (br : Int)) = X ∧ (X < 0 ↔ 0 < br') := by
 refine ⟨_, (((a : Int) - p - br) % 16777216).toNat, (-(((a : Int) - p - br) / 16777216)).toNat, rfl, by omega, by omega, by omega, by omega, IntWalk.i64_in _ (by omega), IntWalk.i64_in _ (by omega), by omega⟩
theorem prod_bd {g b : Nat} (hg : g ≤ 16777216) (hb : b < 16777216) : g * b ≤ 281474976710656 := by
 have := Nat.mul_le_mul hg (show b ≤ 16777216 by omega)
 omega
theorem prod_wrap {g b p : Nat} (hp : g * b = p) (hb : p ≤ 281474976710656) : IntKind.i64.wrap ((g : Int) * (b : Int)) = (p : Int) := by
 have : (g : Int) * (b : Int) = (p : Int) := by rw [← hp]; simp
 rw [this]; exact IntWalk.i64_in _ (by omega)
theorem ab_step {a b c : Nat} (ha : a < 16777216) (hb : b < 16777216) (hc : c ≤ 1) : ∃ n y z : Nat, n = a + b + c ∧ n % 16777216 = y ∧ n / 16777216 = z ∧ z ≤ 1 ∧ (a : Int) + (b : Int) + (c : Int) = (n : Int) ∧ (n : Int) % 16777216 = (y : Int) ∧ (n : Int) / 16777216 = (z : Int) ∧ n < 50000000 :=
 ⟨_, _, _, rfl, rfl, rfl, by omega, by omega, by omega, by omega, by omega⟩
structure St (w1 wr : World) (gu cu gv cv gq Lu n m : Nat) (U v q : List Nat) : Prop where
 u : RowL wr w1.heap.size gu cu Lu U
 v : RowL wr w1.heap.size gv cv n v
 q : RowL wr w1.heap.size gq m m q
 uv : gu ≠ gv
 uq : gu ≠ gq
 vq : gv ≠ gq
 b : Below w1.heap.size w1 wr
theorem St.drewN {w1 wr : World} {gu cu gv cv gq Lu n m : Nat} {U v q : List Nat} (h : St w1 wr gu cu gv cv gq Lu n m U v q) (k : Nat) : St w1 (wr.drewN k) gu cu gv cv gq Lu n m U v q :=
 ⟨h.u.other rfl, h.v.other rfl, h.q.other rfl, h.uv, h.uq, h.vq, bd h.b k⟩
theorem St.setU {w1 wr : World} {gu cu gv cv gq Lu n m : Nat} {U v q : List Nat} (h : St w1 wr gu cu gv cv gq Lu n m U v q) (k y : Nat) : St w1 (wr.setCell ⟨gu, k, none⟩ (.int .i64 (y : Int))) gu cu gv cv gq Lu n m (U.set k y) v q :=
 ⟨h.u.set k y, h.v.other (Below.heap_setCell _ _ _ _ (Ne.symm h.uv)), h.q.other (Below.heap_setCell _ _ _ _ (Ne.symm h.uq)), h.uv, h.uq, h.vq, h.b.setCell (p := ⟨gu, k, none⟩) h.u.ge _⟩
theorem St.setQ {w1 wr : World} {gu cu gv cv gq Lu n m : Nat} {U v q : List Nat} (h : St w1 wr gu cu gv cv gq Lu n m U v q) (k y : Nat) : St w1 (wr.setCell ⟨gq, k, none⟩ (.int .i64 (y : Int))) gu cu gv cv gq Lu n m U v (q.set k y) :=
 ⟨h.u.other (Below.heap_setCell _ _ _ _ h.uq), h.v.other (Below.heap_setCell _ _ _ _ h.vq), h.q.set k y, h.uv, h.uq, h.vq, h.b.setCell (p := ⟨gq, k, none⟩) h.q.ge _⟩
theorem St.setV {w1 wr : World} {gu cu gv cv gq Lu n m : Nat} {U v q : List Nat} (h : St w1 wr gu cu gv cv gq Lu n m U v q) (k y : Nat) : St w1 (wr.setCell ⟨gv, k, none⟩ (.int .i64 (y : Int))) gu cu gv cv gq Lu n m U (v.set k y) q :=
 ⟨h.u.other (Below.heap_setCell _ _ _ _ h.uv), h.v.set k y, h.q.other (Below.heap_setCell _ _ _ _ (Ne.symm h.vq)), h.uv, h.uq, h.vq, h.b.setCell (p := ⟨gv, k, none⟩) h.v.ge _⟩
theorem orLc (k a c : Nat) (hc : c < 2 ^ k) (h : 2 ^ k * a + c < 9223372036854775808) : bits .or .i64 (c : Int) (((2 ^ k * a : Nat) : Int)) = ((2 ^ k * a + c : Nat) : Int) := by
 rw [← orL k a c hc h]
 show IntKind.i64.wrap ((BitVec.ofInt 64 (c : Int) ||| BitVec.ofInt 64 ((2 ^ k * a : Nat) : Int)).toNat : Nat) = IntKind.i64.wrap ((BitVec.ofInt 64 ((2 ^ k * a : Nat) : Int) ||| BitVec.ofInt 64 (c : Int)).toNat : Nat)
 rw [BitVec.or_comm]
theorem back_step {a b s : Nat} (ha : a < 16777216) (hb : b < 16777216) (hs : s ≤ 23) : ∃ A1 B1 N1 y : Nat, (a : Int) / 2 ^ s = (A1 : Int) ∧ (b : Int) * 2 ^ (24 - s) = (B1 : Int) ∧ IntKind.i64.wrap ((b : Int) * 2 ^ (24 - s)) = (B1 : Int) ∧ bits .or .i64 (A1 : Int) (B1 : Int) = (N1 : Int) ∧
  (N1 : Int) % 16777216 = (y : Int) ∧ y < 16777216 ∧ IntKind.i64.wrap (B1 : Int) = (B1 : Int) ∧ (2 ^ (24 - s) * b + a / 2 ^ s) % 16777216 = y := by
 have hp : 0 < 2 ^ s := Nat.pow_pos (by omega)
 have hk : (16777216 : Nat) = 2 ^ (24 - s) * 2 ^ s := by rw [← Nat.pow_add, show 24 - s + s = 24 from by omega]
 have hxd : a / 2 ^ s < 2 ^ (24 - s) := (Nat.div_lt_iff_lt_mul hp).2 (by omega)
 have hpk : 2 ^ (24 - s) ≤ 16777216 := Nat.pow_le_pow_right (n := 2) (i := 24 - s) (j := 24) (by omega) (by omega)
 have hB : 2 ^ (24 - s) * b ≤ 16777216 * 16777216 := Nat.mul_le_mul hpk (by omega)
 have e2 : (b : Int) * 2 ^ (24 - s) = ((2 ^ (24 - s) * b : Nat) : Int) := by simp [Int.mul_comm]
 refine ⟨a / 2 ^ s, 2 ^ (24 - s) * b, 2 ^ (24 - s) * b + a / 2 ^ s, (2 ^ (24 - s) * b + a / 2 ^ s) % 16777216, by simp, e2, ?_, orLc _ _ _ hxd ?_, by omega, Nat.mod_lt _ (by omega), ?_, rfl⟩
 ·rw [e2]; exact IntWalk.i64_in _ (by omega)
 ·omega
 ·exact IntWalk.i64_in _ (by omega)
theorem norm_dvr {lb v : List Nat} {s n : Nat} (Lb : Limbs lb) (hn : lb.length = n) (h2 : 2 ≤ n) (hs1 : 8388608 ≤ lb.getD (n - 1) 0 * 2 ^ s) (hs2 : lb.getD (n - 1) 0 * 2 ^ s < 16777216)
  (hv : InP (2 ^ s * lV lb) v) : Dvr v n := by
 obtain ⟨v1, v2, v3⟩ := hv
 have hsplit : lV lb = lV (lb.take (n - 1)) + 16777216 ^ (n - 1) * lb.getD (n - 1) 0 := by
  rw [← lV_take_succ, show n - 1 + 1 = n from by omega, List.take_of_length_le (by omega)]
 have hlow := lV_lt (Lb.take (n - 1))
 rw [List.length_take, Nat.min_eq_left (by omega)] at hlow
 have hpn : (16777216 : Nat) ^ n = 16777216 ^ (n - 1) * 16777216 := by rw [← Nat.pow_succ]; congr 1; omega
 have e1 : 2 ^ s * lV lb = 2 ^ s * lV (lb.take (n - 1)) + 16777216 ^ (n - 1) * (lb.getD (n - 1) 0 * 2 ^ s) := by
  rw [hsplit, Nat.mul_add]; congr 1
  rw [Nat.mul_left_comm, Nat.mul_comm (2 ^ s)]
 have e2 : 2 ^ s * lV (lb.take (n - 1)) < 2 ^ s * 16777216 ^ (n - 1) := Nat.mul_lt_mul_of_pos_left hlow (Nat.pow_pos (by omega))
 have hd0 : 0 < lb.getD (n - 1) 0 := by
  rcases Nat.eq_zero_or_pos (lb.getD (n - 1) 0) with h | h
  ·rw [h] at hs1; omega
  ·exact h
 have hmod : 16777216 ^ (n - 1) * (lb.getD (n - 1) 0 * 2 ^ s) + 2 ^ s * 16777216 ^ (n - 1) ≤ 16777216 ^ n := by
  rw [hpn, Nat.mul_comm (2 ^ s), ← Nat.mul_add]
  refine Nat.mul_le_mul_left _ ?_
  rcases Nat.lt_or_ge s 24 with h24 | h24
  ·have hk : (16777216 : Nat) = 2 ^ (24 - s) * 2 ^ s := by rw [← Nat.pow_add, show 24 - s + s = 24 from by omega]
   have : lb.getD (n - 1) 0 < 2 ^ (24 - s) := by
    rcases Nat.lt_or_ge (lb.getD (n - 1) 0) (2 ^ (24 - s)) with h | h
    ·exact h
    ·have := Nat.mul_le_mul_right (2 ^ s) h; omega
   have := Nat.mul_le_mul_right (2 ^ s) (show lb.getD (n - 1) 0 + 1 ≤ 2 ^ (24 - s) from this)
   rw [Nat.add_mul, Nat.one_mul] at this
   omega
  ·have := Nat.mul_le_mul hd0 (Nat.pow_le_pow_right (n := 2) (by omega) h24)
   omega
 have hlt : lV v < 16777216 ^ n := by rw [v3, e1]; omega
 have hge : 16777216 ^ (n - 1) * 8388608 ≤ lV v := by
  rw [v3, e1]
  have := Nat.mul_le_mul_left (16777216 ^ (n - 1)) hs1
  omega
 have hln : v.length = n := by
  refine Nat.le_antisymm (InP.len ⟨v1, v2, rfl⟩ hlt) ?_
  rcases Nat.lt_or_ge v.length n with h | h
  ·exfalso
   have a := lV_lt v1
   have : 16777216 ^ v.length ≤ 16777216 ^ (n - 1) := Nat.pow_le_pow_right (by omega) (by omega)
   omega
  ·exact h
 refine ⟨v1, hln, h2, ?_⟩
 have e := lV_dig v1 (n - 1)
 rw [show n - 1 + 1 = n from by omega, Nat.div_eq_of_lt hlt, Nat.mul_zero, Nat.add_zero] at e
 rw [← e, Nat.le_div_iff_mul_le (Nat.pow_pos (by omega)), Nat.mul_comm]
 exact hge
theorem DivRel.start {la v U : List Nat} {s n m : Nat} (La : Limbs la) (d : Dvr v n) (hs : s ≤ 23) (hm : m + n = la.length + 1) (hU : LeftP la s U) : DivRel (2 ^ s * lV la) v n m m U (List.replicate m 0) := by
 have z : lV (List.replicate m 0) = 0 := lV_zeros fun x hx => List.eq_of_mem_replicate hx
 refine ⟨hU.1, fun x hx => by have := List.eq_of_mem_replicate hx; omega, by rw [hU.2.1, hm], by simp, by rw [z, hU.2.2]; omega, ?_, fun k _ => by
  simp only [List.getD_eq_getElem?_getD, List.getElem?_replicate]; split <;> rfl⟩
 rw [hU.2.2]
 have a := lV_lt La
 have b : 2 ^ s * lV la < 8388608 * 16777216 ^ la.length := Nat.mul_lt_mul_of_le_of_lt (pow_le23 hs) a (by omega)
 have c : 16777216 ^ (n - 1) * 8388608 ≤ lV v := by
  have e := lV_dig d.lv (n - 1)
  have h2 := d.two
  rw [show n - 1 + 1 = n from by omega, Nat.div_eq_of_lt d.lt, Nat.mul_zero, Nat.add_zero] at e
  have := d.top
  rw [← e, Nat.le_div_iff_mul_le (Nat.pow_pos (by omega)), Nat.mul_comm] at this
  exact this
 have f := Nat.mul_le_mul_right (16777216 ^ m) c
 rw [Nat.mul_right_comm, ← Nat.pow_add, show n - 1 + m = la.length from by have := d.two; omega] at f
 omega
def BackRel (U : List Nat) (s i : Nat) (r : List Nat) : Prop := Limbs r ∧ 2 ^ s * lV (r.take i) + U.getD 0 0 % 2 ^ s = lV (U.take i) + 16777216 ^ i * (U.getD i 0 % 2 ^ s)
theorem take_set_self {r : List Nat} {i : Nat} (y : Nat) : (r.set i y).take i = r.take i := by rw [List.take_set_of_le (Nat.le_refl _)]
theorem BackRel.next {U r : List Nat} {s i y : Nat} (h : BackRel U s i r) (hs : s ≤ 23) (hi : i < r.length) (hy : y = (2 ^ (24 - s) * U.getD (i + 1) 0 + U.getD i 0 / 2 ^ s) % 16777216) (hU : U.getD i 0 < 16777216) : BackRel U s (i + 1) (r.set i y) := by
 obtain ⟨h1, h2⟩ := h
 have hp : 0 < 2 ^ s := Nat.pow_pos (by omega)
 have hk : (16777216 : Nat) = 2 ^ (24 - s) * 2 ^ s := by rw [← Nat.pow_add, show 24 - s + s = 24 from by omega]
 refine ⟨h1.set _ (by rw [hy]; exact Nat.mod_lt _ (by omega)), ?_⟩
 have hg : (r.set i y).getD i 0 = y := by rw [getD_eq (by simpa using hi), List.getElem_set_self]
 rw [lV_take_succ, take_set_self, hg, lV_take_succ]
 have key : 2 ^ s * y + U.getD i 0 % 2 ^ s = U.getD i 0 + 16777216 * (U.getD (i + 1) 0 % 2 ^ s) := by
  have a := Nat.div_add_mod (U.getD i 0) (2 ^ s)
  have b := Nat.div_add_mod (U.getD (i + 1) 0) (2 ^ s)
  generalize U.getD i 0 = x at *
  generalize U.getD (i + 1) 0 = x1 at *
  generalize hP : 2 ^ s = P at *
  generalize 2 ^ (24 - s) = R at *
  have hxd : x / P < R := (Nat.div_lt_iff_lt_mul hp).2 (by omega)
  have hm := Nat.mod_lt x1 hp
  have e1 : R * x1 + x / P = 16777216 * (x1 / P) + (R * (x1 % P) + x / P) := by
   have : R * x1 = R * (P * (x1 / P)) + R * (x1 % P) := by rw [← Nat.mul_add, b]
   rw [this, ← Nat.mul_assoc, ← hk, Nat.add_assoc]
  have e2 : R * (x1 % P) + x / P < 16777216 := by
   have := Nat.mul_le_mul_left R (show x1 % P + 1 ≤ P from hm)
   rw [Nat.mul_add, ← hk] at this
   omega
  have e3 : y = R * (x1 % P) + x / P := by rw [hy, e1, Nat.mul_add_mod, Nat.mod_eq_of_lt e2]
  rw [e3, Nat.mul_add, ← Nat.mul_assoc, Nat.mul_comm P R, ← hk]
  omega
 rw [Nat.mul_add, Nat.mul_left_comm, Nat.pow_succ, Nat.mul_assoc]
 have e := congrArg (16777216 ^ i * ·) key
 simp only [Nat.mul_add] at e
 generalize 16777216 ^ i * (2 ^ s * y) = z1 at *
 generalize 16777216 ^ i * (U.getD i 0 % 2 ^ s) = z2 at *
 generalize 16777216 ^ i * U.getD i 0 = z3 at *
 generalize 16777216 ^ i * (16777216 * (U.getD (i + 1) 0 % 2 ^ s)) = z4 at *
 omega
theorem BackRel.done {U r : List Nat} {s n : Nat} (h : BackRel U s n r) (hr : r.length = n) (LU : Limbs U) (hlt : lV U < 16777216 ^ n) : lV r = lV U / 2 ^ s := by
 obtain ⟨h1, h2⟩ := h
 have hp : 0 < 2 ^ s := Nat.pow_pos (by omega)
 rw [high_zero LU hlt (Nat.le_refl n), Nat.zero_mod, Nat.mul_zero, Nat.add_zero, List.take_of_length_le (by omega)] at h2
 have hz : lV U = lV (U.take n) := by
  have a := lV_split U n
  have b := lV_div LU n
  rw [Nat.div_eq_of_lt hlt] at b
  rw [← b] at a
  simpa using a
 rw [hz, ← h2, Nat.mul_add_div hp, Nat.div_eq_of_lt (Nat.mod_lt _ hp)]; omega
theorem div_back {a b s : Nat} : 2 ^ s * a / (2 ^ s * b) = a / b ∧ 2 ^ s * a % (2 ^ s * b) / 2 ^ s = a % b := by
 have hp : 0 < 2 ^ s := Nat.pow_pos (by omega)
 refine ⟨Nat.mul_div_mul_left _ _ hp, ?_⟩
 rw [Nat.mul_mod_mul_left, Nat.mul_div_cancel_left _ hp]
end Go.Proofs.YtdajgcgliidjbaaGreat

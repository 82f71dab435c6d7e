/-
  The contract of spec.l02Div by one limb.
-/
import Derived.Test.YtkpcocdflcpnoaaNDivA
namespace Go.Proofs.Ytkpcocdflcpnoaa
open Go.RowKit

/-- What the short division holds with i limbs to come. -/
def OneRel (la : List Nat) (d i r : Nat) (q : List Nat) : Prop := Limbs q ∧ q.length = la.length ∧ r < d ∧ lV (la.drop i) = d * lV (q.drop i) + r
theorem drop_set {q : List Nat} {k : Nat} (h : k < q.length) (y : Nat) : (q.set k y).drop k = y :: q.drop (k + 1) := by
  rw [List.drop_eq_getElem_cons (by simpa using h), List.getElem_set_self, List.drop_set_of_lt (by omega)]
theorem OneRel.next {la q : List Nat} {d i r x : Nat} (h : OneRel la d (i + 1) r q) (hi : i < la.length) (hd : d < 16777216) (La : Limbs la) (hx : x = 16777216 * r + la[i]) :
    OneRel la d i (x % d) (q.set i (x / d)) ∧ x / d < 16777216 := by
  obtain ⟨h1, h2, h3, h4⟩ := h
  have ha := La.get hi
  have hxd : x / d < 16777216 := (Nat.div_lt_iff_lt_mul (by omega)).2 (by omega)
  refine ⟨⟨h1.set _ hxd, by simp [h2], Nat.mod_lt _ (by omega), ?_⟩, hxd⟩
  rw [drop_set (by omega), lV_cons, List.drop_eq_getElem_cons hi, lV_cons, h4, Nat.mul_add, Nat.mul_add]
  have := Nat.div_add_mod x d
  have e : d * (16777216 * lV (q.drop (i + 1))) = 16777216 * (d * lV (q.drop (i + 1))) := by rw [Nat.mul_left_comm]
  rw [e]
  generalize d * lV (q.drop (i + 1)) = z at *
  generalize d * (x / d) = z2 at *
  omega
theorem OneRel.done {la q : List Nat} {d r : Nat} (h : OneRel la d 0 r q) : lV q = lV la / d ∧ r = lV la % d := by
  obtain ⟨_, _, h3, h4⟩ := h
  rw [List.drop_zero, List.drop_zero] at h4
  rw [h4]
  constructor
  · rw [Nat.mul_add_div (by omega), Nat.div_eq_of_lt h3]; omega
  · rw [Nat.mul_add_mod, Nat.mod_eq_of_lt h3]
theorem cmpI_ge {a b : Nat} (h : b ≤ a) : ¬ cmpI a b < 0 := by unfold cmpI; rw [if_neg (by omega)]; split <;> decide
/-- A row of one limb. -/
theorem one_row (w w1 : World) (b : Below w.heap.size w w1) (r : Nat) : RowN (w1.alloc (.cells #[.int .i64 (r : Int)] 3)) w.heap.size (some ⟨w1.heap.size, 0, none⟩) 1 [r] :=
  ⟨by simp [natV], .inr ⟨w1.heap.size, 1, _, rfl, b.size, heap_alloc_new w1 _, by simp, by decide, rfl, by simp [natV]⟩⟩

set_option maxRecDepth 8000 in
set_option maxHeartbeats 4000000 in
theorem div_one (b1 b2 ca cb d : Nat) (A B : Option Addr) (la : List Nat) (w : World) (ha : RowN w b1 A ca la) (hb : RowN w b2 B cb [d]) (La : Limbs la) (Lb : Limbs [d]) (ta : Trimmed la) (tb : Trimmed [d]) (hla : la.length ≤ 400000) (hle : d ≤ lV la) (hd0 : 0 < d) :
    Calls Try.prog 49 #[.slice A la.length ca, .slice B 1 cb] w (DivPost (lV la) d w) := by
  obtain ⟨i0, hi, hz0, hz1, hz2⟩ := info_parts Try.infoI
  have hc := cmp_any b1 b2 ca cb A B la [d] w ha hb La Lb ta tb (by omega)
  have hd : d < 16777216 := Lb d (by simp)
  have hv1 : lV [d] = d := by simp [lV]
  rw [hv1] at hc
  have hcn := cmpI_ge hle
  generalize cmpI (lV la) d = cc at *
  have hcd : decide (cc < 0) = false := by simpa using hcn
  have HC := Lib.hid hc
  have HA := Lib.hid ha
  have HB := Lib.hid hb
  have HLA := Lib.hid La
  clear hc ha hb La Lb ta tb hle hv1
  obtain ⟨na, hna⟩ : ∃ n, la.length = n := ⟨_, rfl⟩
  rw [hna] at hla
  rw [hna] at HC ⊢
  have HNA := Lib.hid hna
  clear hna
  rw [show [d].length = 1 from rfl] at HC
  go_enter Try.func49, Try.ntmps49
  go_wp2_with fail
  refine HC.out.mono ?_
  rintro e w1 ⟨rfl, b⟩
  clear HC
  have hA1 := Lib.hid (HA.out.below b)
  have hB1 := Lib.hid (HB.out.below b)
  clear HA HB
  have hbs0 := b.size
  go_wp2_with (at_make; refine wpList_make_full _ rfl _ _ 55 rfl w.heap.size 3 i0 (.int .i64 0) 1 Try.underlying55 hi hz0 hz1 .i64 .i64 _ _ na rfl rfl (by omega) (by omega) (by rw [hz2]; omega) (by unfold maxLen; omega) (by omega) ?_; intro w0 hown0 hgrow0)
  have hb0 : Below w1.heap.size w1 w0 := (Below.refl _ _).grown hgrow0 (Nat.le_refl _) (fun k hk => by cases hk)
  have HO0 : Hid (w0.ownsRow w.heap.size 3 1 (.slice (some ⟨w1.heap.size, 0, none⟩) na na) na (natV (List.replicate na 0))) := by
    have e : natV (List.replicate na 0) = (madeCells (Value.cells (.int .i64 0)) (na * 1)).toList := by
      have := toList_madeCells_one (.int .i64 0) (na * 1)
      simp only [Value.cells] at this ⊢
      rw [this]
      simp [natV]
    show w0.ownsRow _ _ _ _ _ _
    rw [e]; exact hown0
  have HM0 : Hid (OneRel la d na 0 (List.replicate na 0)) := by
    refine ⟨fun x hx => by have := List.eq_of_mem_replicate hx; omega, by rw [List.length_replicate, HNA.out], hd0, ?_⟩
    rw [List.drop_of_length_le (by rw [HNA.out]; omega), List.drop_of_length_le (by simp)]; simp [lV]
  clear hown0 hgrow0
  have hdz : ((d : Int) == 0) = false := by simp; omega
  have hdz' : ¬ (d : Int) = 0 := by omega
  go_loopw [8, 9] (fun rv iv wr => ∃ (i r : Nat) (q : List Nat), i ≤ na ∧ r < d ∧ iv = .int .i64 ((i : Int) - 1) ∧ rv = .int .i64 r ∧ Hid (OneRel la d i r q) ∧ Hid (wr.ownsRow w.heap.size 3 1 (.slice (some ⟨w1.heap.size, 0, none⟩) na na) na (natV q)) ∧ Below w1.heap.size w1 wr) (fun _ iv _ => (intOf iv + 1).toNat)
  case atStart => exact ⟨na, 0, _, Nat.le_refl _, hd0, rfl, rfl, HM0, HO0, hb0⟩
  case round =>
    clear HO0 hb0 HM0
    obtain ⟨i, r, q, hin, hr, rfl, rfl, hR, hO, hb⟩ := hrel
    have hbs := hb.size
    by_cases h0 : 0 < i
    · obtain ⟨k, rfl⟩ : ∃ k, i = k + 1 := ⟨i - 1, by omega⟩
      have hka : k < la.length := by rw [HNA.out]; omega
      have hki : (((k + 1 : Nat) : Int) - 1) = (k : Int) := by omega
      have hk0 : (0 : Int) ≤ (k : Int) := by omega
      have hkn : (k : Int) < (na : Int) := by omega
      obtain ⟨ga, rfl, _, _, c1, _⟩ := (hA1.out.below hb).at_ hka
      obtain ⟨gb, rfl, _, hgb, c2', _⟩ := hB1.out.at_ (k := 0) (by simp)
      rw [List.getElem_cons_zero] at c2'
      have c2 := (hb.cell (p := ⟨gb, 0, none⟩) hgb).trans c2'
      have hne : ¬ gb = w1.heap.size := by omega
      have hne2 : ¬ w1.heap.size = gb := by omega
      have hx := HLA.out.get hka
      have hql : q.length = na := by rw [hR.out.2.1, HNA.out]
      have N := hR.out.next (x := 16777216 * r + la[k]) hka hd HLA.out rfl
      have hkq : k < q.length := by omega
      have c3 : wr.cell? ⟨w1.heap.size, k, none⟩ = some (.int .i64 (q[k] : Int)) := by
        rw [hO.out.cellAt k (by omega)]
        simp [natV, hkq]
      have f3 := hO.out.frozenAt k
      have ho := orL24 r la[k] hx (by omega)
      have q1 : IntKind.i64.wrap (16777216 * (r : Int)) = 16777216 * (r : Int) := IntWalk.i64_in _ (by omega)
      have q2 : IntKind.i64.wrap ((r : Int) * 16777216) = 16777216 * (r : Int) := by rw [IntWalk.i64_in _ (by omega)]; omega
      obtain ⟨x, hxx⟩ : ∃ x, 16777216 * r + la[k] = x := ⟨_, rfl⟩
      rw [hxx] at N
      have ho2 : bits .or .i64 (16777216 * (r : Int)) (la[k] : Int) = (x : Int) := by rw [ho]; omega
      have hxb : x < 281474976710656 := by omega
      obtain ⟨y, hy⟩ : ∃ y, x / d = y := ⟨_, rfl⟩
      obtain ⟨z, hz⟩ : ∃ z, x % d = z := ⟨_, rfl⟩
      rw [hy, hz] at N
      have t1 : (x : Int) / (d : Int) = (y : Int) := by rw [← hy]; simp
      have t2 : (x : Int) % (d : Int) = (z : Int) := by rw [← hz]; simp
      have t3 : Int.tdiv (x : Int) (d : Int) = (y : Int) := by rw [Int.tdiv_eq_ediv_of_nonneg (by omega)]; exact t1
      have t4 : Int.tmod (x : Int) (d : Int) = (z : Int) := by rw [Int.tmod_eq_emod_of_nonneg (by omega)]; exact t2
      have hzd : z < d := N.1.2.2.1
      have hyb := N.2
      have HN := Lib.hid N.1
      have HS := Lib.hid (natV_stored hO.out k y)
      rw [hki]
      clear N ho hxx hy hz hki hR hO c2'
      go_wp2
      go_roundw
      case rel => exact ⟨k, z, q.set k y, by omega, hzd, by go_num, rfl, HN, HS, hb.setCell (p := ⟨w1.heap.size, k, none⟩) (Nat.le_refl _) _⟩
      case measure => simp [intOf]
    · obtain rfl : i = 0 := by omega
      have h0' : ¬ (0 : Int) ≤ ((0 : Nat) : Int) - 1 := by omega
      have hql : q.length = na := by rw [hR.out.2.1, HNA.out]
      have hq : RowN wr w.heap.size (some ⟨w1.heap.size, 0, none⟩) na q := by unfold RowN; rw [hql]; exact hO.out
      have hbw : Below w.heap.size w wr := bt b hb
      have hT1 := trim_any _ na _ q wr hq (by omega)
      rw [hql] at hT1
      have h1 := one_row w wr hbw r
      have hT2 := trim_any _ 1 _ [r] _ h1 (by simp)
      rw [show [r].length = 1 from rfl] at hT2
      have HT1 := Lib.hid hT1
      have HT2 := Lib.hid hT2
      have HQ := Lib.hid (hq.below ((Below.refl _ _).alloc (Nat.le_refl _) (.cells #[.int .i64 (r : Int)] 3)))
      have HR1 := Lib.hid h1
      have HD := Lib.hid hR.out.done
      have HLQ := Lib.hid hR.out.1
      have HQL := Lib.hid hql
      have HB2 := Lib.hid (hbw.alloc hbw.size (.cells #[.int .i64 (r : Int)] 3))
      clear hT1 hT2 h1 hq hql hR hO hbw hA1 hB1
      go_wp2_with fail
      refine HT1.out.mono ?_
      rintro e w2 ⟨m1, hm1, rfl, rfl, hv1, ht1⟩
      go_wp2_with fail
      refine HT2.out.mono ?_
      rintro e w2 ⟨m2, hm2, rfl, rfl, hv2, ht2⟩
      have Z : DivPost (lV la) d w (.returned (.tuple #[.slice (some ⟨w1.heap.size, 0, none⟩) m1 na, .slice (some ⟨wr.heap.size, 0, none⟩) m2 1])) (wr.alloc (.cells #[.int .i64 (r : Int)] 3)) := by
        have hLr : Limbs [r] := fun x hx => by
          have : x = r := by simpa using hx
          omega
        have hL1 : (q.take m1).length = m1 := by rw [List.length_take]; omega
        have hL2 : ([r].take m2).length = m2 := by rw [List.length_take]; omega
        refine ⟨_, na, q.take m1, _, 1, [r].take m2, by rw [hL1, hL2], ⟨HLQ.out.take m1, ht1, by rw [hv1]; exact HD.out.1⟩, ⟨hLr.take m2, ht2, by rw [hv2, ← HD.out.2]; simp [lV]⟩, HQ.out.take hm1, HR1.out.take hm2, HB2.out⟩
      have HZ := Lib.hid Z
      clear Z hv1 ht1 hv2 ht2
      go_wp2
      go_ret2
      exact HZ.out
end Go.Proofs.Ytkpcocdflcpnoaa

import Derived.Test.YtdajgcgliidjbaaGreatNKn
import Derived.Deep.LoopGhost
import Derived.Deep.CutBlock
import Derived.Deep.DeepCutAuto
import Derived.StillTailTactics
set_option maxRecDepth 8000
set_option maxHeartbeats 8000000
namespace Go.Proofs.YtdajgcgliidjbaaGreat
open Go.RowKit
theorem div_many (b1 b2 ca cb : Nat) (A B : Option Addr) (la lb : List Nat) (w : World) (ha : RowN w b1 A ca la) (hb : RowN w b2 B cb lb) (La : Limbs la) (Lb : Limbs lb) (ta : Trimmed la) (tb : Trimmed lb) (hla : la.length ≤ 400000) (hle : lV lb ≤ lV la) (h2 : 2 ≤ lb.length) :
  Calls Tryz.prog 137 #[.slice A la.length ca, .slice B lb.length cb] w (DivPost (lV la) (lV lb) w) := by
 obtain ⟨i0, hi, hz0, hz1, hz2⟩ := info_parts Tryz.infoI
 have hll : lb.length ≤ la.length := by
  rcases Nat.lt_or_ge la.length lb.length with h | h
  ·have := less_len La tb h; omega
  ·exact h
 have htop : 0 < lb.getD (lb.length - 1) 0 := by
  rcases tb with rfl | ⟨r, x, rfl, hx⟩
  ·simp at h2
  ·rw [getD_eq (by simp)]; simpa using hx
 have hc := cmp_any b1 b2 ca cb A B la lb w ha hb La Lb ta tb (by omega)
 have hcn := cmpI_ge hle
 generalize cmpI (lV la) (lV lb) = cc at *
 have hcd : decide (cc < 0) = false := by simpa using hcn
 have HC := Lib.hid hc
 have HA := Lib.hid ha
 have HB := Lib.hid hb
 have HLA := Lib.hid La
 have HLB := Lib.hid Lb
 clear hc ha hb La Lb ta tb hle
 obtain ⟨na, hna⟩ : ∃ n, la.length = n := ⟨_, rfl⟩
 obtain ⟨n, hnb⟩ : ∃ n, lb.length = n := ⟨_, rfl⟩
 rw [hna] at hla HC hll ⊢
 rw [hnb] at h2 HC hll htop ⊢
 have HNA := Lib.hid hna
 have HNB := Lib.hid hnb
 have hn1 : ((n : Int) == 1) = false := by simp; omega
 obtain ⟨t, ht⟩ : ∃ t, lb.getD (n - 1) 0 = t := ⟨_, rfl⟩
 have htb : t < 16777216 := by rw [← ht]; exact getD_lt HLB.out _
 rw [ht] at htop
 have HT := Lib.hid ht
 clear hna hnb ht
 go_enter Tryz.func137, Tryz.ntmps137
 go_wp2_with fail
 refine HC.out.mono ?_
 rintro e w1 ⟨rfl, b⟩
 clear HC
 have hA1 := Lib.hid (HA.out.below b)
 have hB1 := Lib.hid (HB.out.below b)
 clear HA HB
 have hbs0 := b.size
 go_wp2
 go_loopw [11] (fun sv wr => ∃ s : Nat, s ≤ 23 ∧ sv = .int .u64 s ∧ Hid (t * 2 ^ s < 16777216) ∧ Below w1.heap.size w1 wr) (fun sv _ => 24 - (intOf sv).toNat)
 case atStart => exact ⟨0, by omega, rfl, by show _ < _; omega, Below.refl _ _⟩
 case round =>
  obtain ⟨s, hs, rfl, hS, hb⟩ := hrel
  have hbs := hb.size
  have hnl : n - 1 < lb.length := by rw [HNB.out]; omega
  obtain ⟨gb, rfl, _, _, c1, _⟩ := (hB1.out.below hb).at_ hnl
  have e1 : lb[n - 1] = t := by rw [← getD_eq hnl, HT.out]
  rw [e1] at c1
  have i1 : ((n : Int) - 1).toNat = n - 1 := by omega
  have i2 : (n : Int) - 1 < (n : Int) := by omega
  have i3 : 0 ≤ (n : Int) - 1 := by omega
  obtain ⟨p, hp⟩ : ∃ p, t * 2 ^ s = p := ⟨_, rfl⟩
  have hpi : (t : Int) * 2 ^ s = (p : Int) := by rw [← hp]; simp
  have hpb : p < 16777216 := by rw [← hp]; exact hS.out
  by_cases hlt : p < 8388608
  ·have hlt' : (p : Int) < 8388608 := by omega
   have hS2 : Hid (t * 2 ^ (s + 1) < 16777216) := by show _ < _; rw [Nat.pow_succ, ← Nat.mul_assoc, hp]; omega
   have hs2 : s < 23 := by
    rcases Nat.lt_or_ge s 23 with h | h
    ·exact h
    ·exfalso
     have := Nat.mul_le_mul htop (Nat.pow_le_pow_right (n := 2) (by omega) h)
     omega
   clear hp hS e1
   go_wp2
   go_roundw
   case rel => exact ⟨s + 1, by omega, by go_num, hS2, hb⟩
   case measure => simp [intOf]; omega
  ·have hlt' : ¬ (p : Int) < 8388608 := by omega
   have hS1 : Hid (8388608 ≤ lb.getD (n - 1) 0 * 2 ^ s ∧ lb.getD (n - 1) 0 * 2 ^ s < 16777216) := by
    rw [HT.out]; exact ⟨by rw [hp]; omega, hS.out⟩
   have hL1 := left_any _ ca s A la wr (hA1.out.below hb) HLA.out (by rw [HNA.out]; omega) hs
   rw [HNA.out] at hL1
   have HL1 := Lib.hid hL1
   clear hp hS e1 hL1
   go_wp2_with fail
   refine HL1.out.mono ?_
   rintro e w2 ⟨R, cu, U, rfl, pU, rU, b2⟩
   have hL2 := left_any _ cb s _ lb w2 ((hB1.out.below hb).below b2) HLB.out (by rw [HNB.out]; omega) hs
   rw [HNB.out] at hL2
   have HL2 := Lib.hid hL2
   clear hL2 HL1
   go_wp2_with fail
   refine HL2.out.mono ?_
   rintro e w3 ⟨R3, c3, v3, rfl, pv3, rv3, b3⟩
   have hTr := Lib.hid (trim_any _ c3 R3 v3 w3 rv3 (by rw [pv3.2.1, HNB.out]; omega))
   clear HL2
   go_wp2_with fail
   refine hTr.out.mono ?_
   rintro e w4 ⟨m3, hm3, rfl, rfl, hv3, ht3⟩
   have hD := norm_dvr HLB.out HNB.out h2 hS1.out.1 hS1.out.2 (v := v3.take m3) ⟨pv3.1.take m3, ht3, by rw [hv3, pv3.2.2]⟩
   have hm3n : n = m3 := by have := hD.nv; rw [List.length_take, Nat.min_eq_left hm3] at this; exact this.symm
   subst hm3n
   obtain ⟨m, hm⟩ : ∃ m, m + n = na + 1 := ⟨na + 1 - n, by omega⟩
   have hmi : (na : Int) + 1 - (n : Int) = (m : Int) := by omega
   have hUl : U.length = na + 1 := by rw [pU.2.1, HNA.out]
   obtain ⟨gu, rfl, rU2⟩ := rU.rowL (by omega)
   rw [hUl] at rU2 ⊢
   have rv2 := rv3.take hm3
   obtain ⟨v, hv⟩ : ∃ v, v3.take n = v := ⟨_, rfl⟩
   have hV : lV v = 2 ^ s * lV lb := by rw [← hv, hv3, pv3.2.2]
   rw [hv] at hD rv2
   obtain ⟨gv, rfl, rv4⟩ := rv2.rowL (by rw [hD.nv]; omega)
   rw [hD.nv] at rv4
   have HR := Lib.hid (DivRel.start HLA.out hD hs (by rw [HNA.out]; exact hm) pU)
   obtain ⟨u0, hu0⟩ : ∃ u0, 2 ^ s * lV la = u0 := ⟨_, rfl⟩
   rw [hu0] at HR
   have HU0 := Lib.hid hu0
   have HV := Lib.hid hV
   have HD := Lib.hid hD
   have rU3 := Lib.hid ((rU2.below b3).base hbs)
   have rV3 := Lib.hid (rv4.base (b' := w1.heap.size) (by have := b2.size; omega))
   have hguv : gu ≠ gv := by have := rU2.lt; have := rv4.ge; omega
   have hgu : gu < w3.heap.size := rU3.out.lt
   have hgv : gv < w3.heap.size := rV3.out.lt
   have hb3 := bt (bt hb b2) b3
   have hbs3 := hb3.size
   have hm0 : 0 < m := by omega
   clear hv hv3 ht3 hm3 rv2 rv3 rv4 rU rU2 pU pv3 hD hV hu0 hTr b2 b3 hb hS1 hA1 hB1 hUl c1 hbs
   go_wp2_with (at_make; refine wpList_make_full _ rfl _ _ 57 rfl w1.heap.size 3 i0 (.int .i64 0) 1 Tryz.underlying57 hi hz0 hz1 .i64 .i64 _ _ m rfl rfl (by omega) (by omega) (by rw [hz2]; omega) (by unfold maxLen; omega) (by omega) ?_; intro w5 hown5 hgrow5)
   have hb5 : Below w3.heap.size w3 w5 := (Below.refl _ _).grown hgrow5 (Nat.le_refl _) (fun k hk => by cases hk)
   have HS : Hid (St w1 w5 gu cu gv c3 w3.heap.size (na + 1) n m U v (List.replicate m 0)) :=
    ⟨rU3.out.below hb5, rV3.out.below hb5, made_row hown5, hguv, by omega, by omega, bt hb3 hb5⟩
   obtain ⟨gq, hgq⟩ : ∃ g, w3.heap.size = g := ⟨_, rfl⟩
   rw [hgq] at HS ⊢
   clear hown5 hgrow5 hb5 rU3 rV3 hgu hgv hguv hgq hbs3 hb3
   go_loopg [16] m (fun gh jv wr => ∃ (j : Nat) (U q : List Nat), gh = j ∧ j ≤ m ∧ jv = .int .i64 ((j : Int) - 1) ∧ Hid (DivRel u0 v n j m U q) ∧ Hid (St w1 wr gu cu gv c3 gq (na + 1) n m U v q))
   case atStart => exact ⟨m, U, _, rfl, Nat.le_refl _, rfl, HR, HS⟩
   case round =>
    clear HR HS
    obtain ⟨j, U, q, hgk, hjm, rfl, HR, HS⟩ := hrel
    by_cases h0 : 0 < j
    ·obtain ⟨j, rfl⟩ : ∃ k, j = k + 1 := ⟨j - 1, by omega⟩
     have hji : (((j + 1 : Nat) : Int) - 1) = (j : Int) := by omega
     have hj0 : (0 : Int) ≤ (j : Int) := by omega
     rw [hji]
     have T := top_of HD.out HR.out
     obtain ⟨cu1, fu1⟩ := HS.out.u.cell (k := j + n) (by omega)
     obtain ⟨cu2, fu2⟩ := HS.out.u.cell (k := j + n - 1) (by omega)
     obtain ⟨cv1, fv1⟩ := HS.out.v.cell (k := n - 1) (by omega)
     have bx1 := getD_lt HR.out.lU (j + n)
     have bx2 := getD_lt HR.out.lU (j + n - 1)
     obtain ⟨x1, hx1⟩ : ∃ x, U.getD (j + n) 0 = x := ⟨_, rfl⟩
     obtain ⟨x2, hx2⟩ : ∃ x, U.getD (j + n - 1) 0 = x := ⟨_, rfl⟩
     obtain ⟨x3, hx3⟩ : ∃ x, U.getD (j + n - 2) 0 = x := ⟨_, rfl⟩
     obtain ⟨y1, hy1⟩ : ∃ x, v.getD (n - 1) 0 = x := ⟨_, rfl⟩
     obtain ⟨y2, hy2⟩ : ∃ x, v.getD (n - 2) 0 = x := ⟨_, rfl⟩
     rw [hx1, hx2, hx3, hy1, hy2] at T
     rw [hx1] at cu1 bx1
     rw [hx2] at cu2 bx2
     rw [hy1] at cv1
     have ho := orL24 x1 x2 bx2 (by omega)
     obtain ⟨top, htp⟩ : ∃ p, x1 * 16777216 + x2 = p := ⟨_, rfl⟩
     rw [htp] at T
     have ho2 : bits .or .i64 (16777216 * (x1 : Int)) (x2 : Int) = (top : Int) := by rw [ho]; omega
     have hor : bits .or .i64 ((x1 : Int) * 16777216) (x2 : Int) = (top : Int) := by rw [Int.mul_comm]; exact ho2
     have q1 : IntKind.i64.wrap ((x1 : Int) * 16777216) = (x1 : Int) * 16777216 := IntWalk.i64_in _ (by omega)
     have j1 : (j : Int) + (n : Int) < (na : Int) + 1 := by omega
     have j2 : ((j : Int) + (n : Int)).toNat = j + n := by omega
     have j3 : ((j : Int) + (n : Int) - 1).toNat = j + n - 1 := by omega
     have j4 : (j : Int) + (n : Int) - 1 < (na : Int) + 1 := by omega
     have j5 : 0 ≤ (j : Int) + (n : Int) - 1 := by omega
     have htop2 := top_bd htp bx1 bx2
     have HT1 := Lib.hid T
     clear T ho
     go_wp2_with fail
     go_quiet (fail)
     have HS1 := Lib.hid (HS.out.drewN nq)
     clear HS cu1 cu2 fu1 fu2 cv1 fv1 ho2 hor q1
     generalize wr.drewN nq = wr at *
     obtain ⟨cv1, fv1⟩ := HS1.out.v.cell (k := n - 1) (by omega)
     rw [hy1] at cv1
     have by1 := HT1.out.h1
     have by1' := HT1.out.h1'
     have hyz : ((y1 : Int) == 0) = false := by simp; omega
     have hyz' : ¬ (y1 : Int) = 0 := by omega
     have k1 : ((n : Int) - 1).toNat = n - 1 := by omega
     have k2 : (n : Int) - 1 < (n : Int) := by omega
     have k3 : 0 ≤ (n : Int) - 1 := by omega
     have G := HT1.out.first
     obtain ⟨qd, hqd⟩ : ∃ x, lV U / 16777216 ^ j / lV v = x := ⟨_, rfl⟩
     have hqb := HT1.out.qd
     rw [hqd] at G hqb
     obtain ⟨g0, hg0⟩ : ∃ x, top / y1 = x := ⟨_, rfl⟩
     obtain ⟨r0, hr0⟩ : ∃ x, top % y1 = x := ⟨_, rfl⟩
     have hgr : g0 * y1 + r0 = top := by rw [← hg0, ← hr0, Nat.mul_comm]; exact Nat.div_add_mod _ _
     have hr0b : r0 < y1 := by rw [← hr0]; exact Nat.mod_lt _ (by omega)
     rw [hg0] at G
     have t1 : (top : Int) / (y1 : Int) = (g0 : Int) := by rw [← hg0]; simp
     have t2 : (top : Int) % (y1 : Int) = (r0 : Int) := by rw [← hr0]; simp
     have t3 : Int.tdiv (top : Int) (y1 : Int) = (g0 : Int) := by rw [Int.tdiv_eq_ediv_of_nonneg (by omega)]; exact t1
     have t4 : Int.tmod (top : Int) (y1 : Int) = (r0 : Int) := by rw [Int.tmod_eq_emod_of_nonneg (by omega)]; exact t2
     have HGR := Lib.hid hgr
     have HQD := Lib.hid hqd
     have G1 := G.1
     have G2 := G.2
     clear G hgr hqd hg0 hr0 htp bx1 bx2
     have hgb : g0 ≤ 16777217 := G2
     have hrb : r0 < 16777216 := by omega
     go_upto_block 6 with fail
     go_cut [18, 19] (fun gv' rv' wx => ∃ g r : Nat, gv' = .int .i64 g ∧ rv' = .int .i64 r ∧ qd ≤ g ∧ g ≤ qd + 1 ∧ Hid (St w1 wx gu cu gv c3 gq (na + 1) n m U v q))
     case first =>
      go_wp2_with fail
      go_loopg [18, 19] g0 (fun gh gv' rv' wx => ∃ g r : Nat, gh = g ∧ gv' = .int .i64 g ∧ rv' = .int .i64 r ∧ qd ≤ g ∧ g ≤ 16777217 ∧ r < 16777216 ∧ Hid (g * y1 + r = top) ∧ Hid (St w1 wx gu cu gv c3 gq (na + 1) n m U v q))
      case atStart => exact ⟨g0, r0, rfl, rfl, rfl, G1, hgb, hrb, HGR, HS1⟩
      case round =>
       obtain ⟨g, r, hgk2, rfl, rfl, hq1, hg1, hr1, hGR, HS2⟩ := hrel
       clear HS1 cv1 fv1 HGR
       obtain ⟨cv1, fv1⟩ := HS2.out.v.cell (k := n - 1) (by omega)
       obtain ⟨cv2, fv2⟩ := HS2.out.v.cell (k := n - 2) (by omega)
       obtain ⟨cu3, fu3⟩ := HS2.out.u.cell (k := j + n - 2) (by omega)
       rw [hy1] at cv1
       rw [hy2] at cv2
       rw [hx3] at cu3
       have l1 : ((n : Int) - 2).toNat = n - 2 := by omega
       have l2 : (n : Int) - 2 < (n : Int) := by omega
       have l3 : 0 ≤ (n : Int) - 2 := by omega
       have l4 : ((j : Int) + (n : Int) - 2).toNat = j + n - 2 := by omega
       have l5 : (j : Int) + (n : Int) - 2 < (na : Int) + 1 := by omega
       have l6 : 0 ≤ (j : Int) + (n : Int) - 2 := by omega
       have by2 := HT1.out.h2
       have bx3 := HT1.out.h3
       obtain ⟨p, hp⟩ : ∃ p, g * y2 = p := ⟨_, rfl⟩
       have hpb : p ≤ 16777217 * 16777215 := by rw [← hp]; exact Nat.mul_le_mul hg1 (by omega)
       have qa : IntKind.i64.wrap ((g : Int) * (y2 : Int)) = (p : Int) := by
        have : (g : Int) * (y2 : Int) = (p : Int) := by rw [← hp]; simp
        rw [this]; exact IntWalk.i64_in _ (by omega)
       have qb : IntKind.i64.wrap ((r : Int) * 16777216) = (r : Int) * 16777216 := IntWalk.i64_in _ (by omega)
       obtain ⟨s3, hs3⟩ : ∃ p, r * 16777216 + x3 = p := ⟨_, rfl⟩
       have ho : bits .or .i64 ((r : Int) * 16777216) (x3 : Int) = (s3 : Int) := by
        have := orL24 r x3 bx3 (by omega)
        rw [Int.mul_comm, this]; omega
       by_cases hbig : 16777216 ≤ g
       ·have cb1 : decide ((16777216 : Int) ≤ (g : Int)) = true := by simp; omega
        have CB2 : (16777216 : Int) ≤ (g : Int) := by omega
        have hmore : qd < g := by omega
        clear hp hs3 hpb
        go_upto_region 27 with fail
        go_quiet (fail)
        have HS3 := Lib.hid (HS2.out.drewN nq)
        clear HS2 cv1 fv1 cv2 fv2 cu3 fu3 qa qb ho cb1 CB2
        generalize wr.drewN nq = wr at *
        obtain ⟨cv1, fv1⟩ := HS3.out.v.cell (k := n - 1) (by omega)
        rw [hy1] at cv1
        obtain ⟨g', hg'⟩ : ∃ g', g = g' + 1 := ⟨g - 1, by omega⟩
        have hgi : (g : Int) - 1 = (g' : Int) := by omega
        have hG2 : Hid (g' * y1 + (r + y1) = top) := by
         show _ = _
         rw [← hGR.out, hg', Nat.add_mul]; omega
        have hq2 : qd ≤ g' := by omega
        have hg2 : g' ≤ 16777216 := by omega
        have hri : (r : Int) + (y1 : Int) = ((r + y1 : Nat) : Int) := by omega
        have hrw : IntKind.i64.wrap ((r : Int) + (y1 : Int)) = ((r + y1 : Nat) : Int) := by rw [hri]; exact IntWalk.i64_in _ (by omega)
        by_cases hbr : 16777216 ≤ r + y1
        ·have hps : g' ≤ qd := by have := HT1.out.past hG2.out hbr hg2; rw [HQD.out] at this; exact this
         have cb3 : decide ((16777216 : Int) ≤ ((r + y1 : Nat) : Int)) = true := by simp; omega
         have cb4 : (16777216 : Int) ≤ ((r + y1 : Nat) : Int) := by omega
         generalize r + y1 = r' at *
         clear hg' hri
         go_wp2
         go_meet
         exact ⟨g', r', rfl, rfl, hq2, by omega, HS3⟩
        ·have cb3 : decide ((16777216 : Int) ≤ ((r + y1 : Nat) : Int)) = false := by simp; omega
         have cb4 : ¬ (16777216 : Int) ≤ ((r + y1 : Nat) : Int) := by omega
         have hgk3 : g' < gk := by omega
         have hr3 : r + y1 < 16777216 := by omega
         generalize r + y1 = r' at *
         clear hg' hri hbr
         go_wp2
         go_roundg g'
         case measure => omega
         case rel => exact ⟨g', r', rfl, rfl, rfl, hq2, by omega, hr3, hG2, HS3⟩
       ·have cb1 : decide ((16777216 : Int) ≤ (g : Int)) = false := by simp; omega
        have cb0 : ¬ (16777216 : Int) ≤ (g : Int) := by omega
        have cb00 : (g : Int) < 16777216 := by omega
        by_cases htest : s3 < p
        ·have CB2 : (s3 : Int) < (p : Int) := Int.ofNat_lt.2 htest
         have cb2' : decide ((s3 : Int) < (p : Int)) = true := decide_eq_true CB2
         have hmore : qd < g := by have := HT1.out.more hGR.out (by rw [hs3, hp]; exact htest); rw [HQD.out] at this; exact this
         clear hp hs3 hpb
         go_upto_region 27 with fail
         go_quiet (fail)
         have HS3 := Lib.hid (HS2.out.drewN nq)
         clear HS2 cv1 fv1 cv2 fv2 cu3 fu3 qa qb ho cb1 CB2
         generalize wr.drewN nq = wr at *
         obtain ⟨cv1, fv1⟩ := HS3.out.v.cell (k := n - 1) (by omega)
         rw [hy1] at cv1
         obtain ⟨g', hg'⟩ : ∃ g', g = g' + 1 := ⟨g - 1, by omega⟩
         have hgi : (g : Int) - 1 = (g' : Int) := by omega
         have hG2 : Hid (g' * y1 + (r + y1) = top) := by
          show _ = _
          rw [← hGR.out, hg', Nat.add_mul]; omega
         have hq2 : qd ≤ g' := by omega
         have hg2 : g' ≤ 16777216 := by omega
         have hri : (r : Int) + (y1 : Int) = ((r + y1 : Nat) : Int) := by omega
         have hrw : IntKind.i64.wrap ((r : Int) + (y1 : Int)) = ((r + y1 : Nat) : Int) := by rw [hri]; exact IntWalk.i64_in _ (by omega)
         by_cases hbr : 16777216 ≤ r + y1
         ·have hps : g' ≤ qd := by have := HT1.out.past hG2.out hbr hg2; rw [HQD.out] at this; exact this
          have cb3 : decide ((16777216 : Int) ≤ ((r + y1 : Nat) : Int)) = true := by simp; omega
          have cb4 : (16777216 : Int) ≤ ((r + y1 : Nat) : Int) := by omega
          generalize r + y1 = r' at *
          clear hg' hri
          go_wp2
          go_meet
          exact ⟨g', r', rfl, rfl, hq2, by omega, HS3⟩
         ·have cb3 : decide ((16777216 : Int) ≤ ((r + y1 : Nat) : Int)) = false := by simp; omega
          have cb4 : ¬ (16777216 : Int) ≤ ((r + y1 : Nat) : Int) := by omega
          have hgk3 : g' < gk := by omega
          have hr3 : r + y1 < 16777216 := by omega
          generalize r + y1 = r' at *
          clear hg' hri hbr
          go_wp2
          go_roundg g'
          case measure => omega
          case rel => exact ⟨g', r', rfl, rfl, rfl, hq2, by omega, hr3, hG2, HS3⟩
        ·have CB2 : ¬ (s3 : Int) < (p : Int) := fun h => htest (Int.ofNat_lt.1 h)
         have cb2' : decide ((s3 : Int) < (p : Int)) = false := decide_eq_false CB2
         have hless : g ≤ qd + 1 := by have := HT1.out.less hGR.out (Nat.le_of_lt (Nat.lt_of_not_le hbig)) (by rw [hs3, hp]; exact Nat.le_of_not_lt htest); rw [HQD.out] at this; exact this
         clear hp hs3 hpb
         go_upto_region 27 with fail
         go_quiet (fail)
         have HS3 := Lib.hid (HS2.out.drewN nq)
         go_wp2
         go_meet
         exact ⟨g, r, rfl, rfl, hq1, hless, HS3⟩
     case rest =>
      obtain ⟨g, r, rfl, rfl, hq1, hq2, HS4⟩ := hcut
      clear HS1 cv1 fv1 HGR HT1 t1 t2 t3 t4 hyz hyz' G1 G2 hgb hrb by1 by1' htop2 hr0b
      have hgB : g ≤ 16777216 := by omega
      have hLU := Lib.hid HR.out.lU
      have hLV := Lib.hid HD.out.lv
      have hvn : Hid (v.getD n 0 = 0) := by
       show _ = _
       rw [List.getD_eq_getElem?_getD, List.getElem?_eq_none (by rw [HD.out.nv]; exact Nat.le_refl _)]; rfl
      have hand := andL
      clear hx1 hx2 hx3 hy1 hy2
      go_wp2_with fail
      go_loopg [20, 21] n (fun gh bv iv wx => ∃ (i br : Nat) (Q : List Nat), gh = n - i ∧ i ≤ n ∧ iv = .int .i64 i ∧ bv = .int .i64 br ∧ br ≤ g ∧ Hid (MS U v j g i br Q) ∧ Hid (St w1 wx gu cu gv c3 gq (na + 1) n m Q v q))
      case atStart => exact ⟨0, 0, U, by omega, by omega, rfl, rfl, by omega, MS.start hLU.out j g, HS4⟩
      case round =>
       clear HS4
       obtain ⟨i, br, Q, hgk2, hin, rfl, rfl, hbr, hM, HS5⟩ := hrel
       have bQ := Lib.hid hM.out.1
       by_cases hlt : i < n
       ·have hlt' : (i : Int) < (n : Int) := by omega
        obtain ⟨cuA, fuA⟩ := HS5.out.u.cell (k := j + i) (by omega)
        obtain ⟨cvA, fvA⟩ := HS5.out.v.cell (k := i) (by omega)
        have ba := getD_lt bQ.out (j + i)
        have bb := getD_lt hLV.out i
        have hQl := HS5.out.u.length
        obtain ⟨a, haa⟩ : ∃ a, Q.getD (j + i) 0 = a := ⟨_, rfl⟩
        obtain ⟨b', hbb⟩ : ∃ a, v.getD i 0 = a := ⟨_, rfl⟩
        rw [haa] at cuA ba
        rw [hbb] at cvA bb
        have hpb := prod_bd hgB bb
        obtain ⟨p, hp⟩ : ∃ p, g * b' = p := ⟨_, rfl⟩
        rw [hp] at hpb
        have qa := prod_wrap hp hpb
        obtain ⟨X, y, br2, e1, e2, e3, e4, e5, e6, e7, e8⟩ := ms_step ba hpb (Nat.le_trans hbr (Nat.le_succ_of_le hgB))
        have hN := Lib.hid (hM.out.next hLV.out (by rw [hQl]; omega) e4 (by rw [haa, hbb, hp]; exact e5))
        have hbr2 := hN.out.2.2.2.1
        have i1 : ((i : Int) + (j : Int)).toNat = j + i := by omega
        have i2 : (i : Int) + (j : Int) < (na : Int) + 1 := by omega
        have i3 : 0 ≤ (i : Int) + (j : Int) := by omega
        have i4 : (0 : Int) ≤ (i : Int) := by omega
        clear hp haa hbb e1 e5 e8 hM hpb hQl
        go_wp2_with fail
        go_quiet (fail)
        have HS6 := Lib.hid (HS5.out.drewN nq)
        clear HS5 cuA fuA cvA fvA qa e6 e7
        generalize wr.drewN nq = wr at *
        obtain ⟨cuA, fuA⟩ := HS6.out.u.cell (k := j + i) (by omega)
        have HS7 := Lib.hid (HS6.out.setU (j + i) y)
        go_wp2
        go_roundg (n - (i + 1))
        case measure => omega
        case rel => exact ⟨i + 1, br2, Q.set (j + i) y, rfl, by omega, by go_num, rfl, hbr2, hN, HS7⟩
       ·obtain rfl : n = i := by omega
        have hlt' : ¬ (n : Int) < (n : Int) := by omega
        obtain ⟨cuA, fuA⟩ := HS5.out.u.cell (k := j + n) (by omega)
        have ba := getD_lt bQ.out (j + n)
        have hQl := HS5.out.u.length
        obtain ⟨a, haa⟩ : ∃ a, Q.getD (j + n) 0 = a := ⟨_, rfl⟩
        rw [haa] at cuA ba
        obtain ⟨X, y, br2, e1, e2, e3, e4, e5, e6, e7, e8⟩ := ms_step (p := 0) ba (by omega) (Nat.le_trans hbr (Nat.le_succ_of_le hgB))
        have hN := Lib.hid (hM.out.next (br' := br2) hLV.out (by rw [hQl]; omega) e4 (by rw [haa, hvn.out, Nat.mul_zero g]; exact e5))
        have hX : (a : Int) - (br : Int) = X := by rw [← e1]; simp
        have hXw : IntKind.i64.wrap ((a : Int) - (br : Int)) = X := by rw [← e7]; simp
        have i1 : ((j : Int) + (n : Int)).toNat = j + n := by omega
        have i2 : (j : Int) + (n : Int) < (na : Int) + 1 := by omega
        have i3 : 0 ≤ (j : Int) + (n : Int) := by omega
        have HS6 := Lib.hid (HS5.out.setU (j + n) y)
        have k1 : (j : Int) < (m : Int) := by omega
        obtain ⟨Q1, hQ1⟩ : ∃ Q1, Q.set (j + n) y = Q1 := ⟨_, rfl⟩
        rw [hQ1] at HS6 hN
        clear haa e5 e7 hM hQl hQ1 e6 e1
        by_cases hneg : X < 0
        ·have hbp : 0 < br2 := e8.1 hneg
         have hg1 : 0 < g := Nat.lt_of_lt_of_le hbp hN.out.2.2.2.1
         obtain ⟨g', hg'⟩ : ∃ g', g = g' + 1 := ⟨g - 1, by omega⟩
         have hgi : (g : Int) - 1 = (g' : Int) := by omega
         have cb1 : decide (X < 0) = true := decide_eq_true hneg
         have hLQ := Lib.hid hN.out.1
         clear e8
         go_wp2_with fail
         go_loopg [24, 25] n (fun gh cv' iv wx => ∃ (i c : Nat) (R : List Nat), gh = n - i ∧ i ≤ n ∧ iv = .int .i64 i ∧ cv' = .int .i64 c ∧ c ≤ 1 ∧ Hid (AB Q1 v j i c R) ∧ Hid (St w1 wx gu cu gv c3 gq (na + 1) n m R v q))
         case atStart => exact ⟨0, 0, Q1, by omega, by omega, rfl, rfl, by omega, AB.start hLQ.out j, HS6⟩
         case round =>
          clear HS6 HS5 cuA fuA hX hXw e2 e3
          obtain ⟨i, c, R, hgk3, hin, rfl, rfl, hc, hAB, HS7⟩ := hrel
          have bR := Lib.hid hAB.out.1
          have hRl := HS7.out.u.length
          by_cases hlt : i < n
          ·have hlt2 : (i : Int) < (n : Int) := by omega
           obtain ⟨cuA, fuA⟩ := HS7.out.u.cell (k := j + i) (by omega)
           obtain ⟨cvA, fvA⟩ := HS7.out.v.cell (k := i) (by omega)
           have ba := getD_lt bR.out (j + i)
           have bb := getD_lt hLV.out i
           obtain ⟨a2, haa⟩ : ∃ a, R.getD (j + i) 0 = a := ⟨_, rfl⟩
           obtain ⟨b', hbb⟩ : ∃ a, v.getD i 0 = a := ⟨_, rfl⟩
           rw [haa] at cuA ba
           rw [hbb] at cvA bb
           obtain ⟨N, y3, z3, n1, n2, n3, n4, n5, n6, n7, n8⟩ := ab_step ba bb hc
           have hA2 := hAB.out.next (n := N) (by rw [hRl]; omega) (by rw [haa, hbb]; exact n1)
           rw [n2, n3] at hA2
           have HA2 := Lib.hid hA2
           have i1' : ((i : Int) + (j : Int)).toNat = j + i := by omega
           have i2' : (i : Int) + (j : Int) < (na : Int) + 1 := by omega
           have i3' : 0 ≤ (i : Int) + (j : Int) := by omega
           have i4' : (0 : Int) ≤ (i : Int) := by omega
           clear haa hbb n1 n2 n3 hA2 hAB hRl
           go_wp2_with fail
           go_quiet (fail)
           have HS8 := Lib.hid (HS7.out.drewN nq)
           clear HS7 cuA fuA cvA fvA
           generalize wr.drewN nq = wr at *
           obtain ⟨cuA, fuA⟩ := HS8.out.u.cell (k := j + i) (by omega)
           have HS9 := Lib.hid (HS8.out.setU (j + i) y3)
           go_wp2
           go_roundg (n - (i + 1))
           case measure => omega
           case rel => exact ⟨i + 1, z3, R.set (j + i) y3, rfl, by omega, by go_num, rfl, n4, HA2, HS9⟩
          ·obtain rfl : n = i := by omega
           have hlt2 : ¬ (n : Int) < (n : Int) := by omega
           obtain ⟨cuA, fuA⟩ := HS7.out.u.cell (k := j + n) (by omega)
           have ba := getD_lt bR.out (j + n)
           obtain ⟨a2, haa⟩ : ∃ a, R.getD (j + n) 0 = a := ⟨_, rfl⟩
           rw [haa] at cuA ba
           obtain ⟨N, y3, z3, n1, n2, n3, n4, n5, n6, n7, n8⟩ := ab_step (b := 0) ba (by omega) hc
           have hA2 := hAB.out.next (n := N) (by rw [hRl]; omega) (by rw [haa, hvn.out]; exact n1)
           rw [n2, n3] at hA2
           have n5' : (a2 : Int) + (c : Int) = (N : Int) := by rw [← n5]; simp
           have F := step_back HD.out HR.out hN.out hbp (by rw [HQD.out]; exact hq2) hA2
           have hgq : g' = qd := by have := F.1; rw [HQD.out] at this; omega
           have hgl : g' < 16777216 := by rw [hgq]; exact hqb
           have hL1 := F.2
           rw [hg', Nat.add_sub_cancel] at hL1
           have hR2 := Lib.hid (HR.out.next (by omega) hL1 hgl)
           have HS8 := Lib.hid ((HS7.out.setU (j + n) y3).setQ j g')
           obtain ⟨cqA, fqA⟩ := (HS7.out.setU (j + n) y3).q.cell (k := j) (by omega)
           clear haa n1 n2 n3 n5 hA2 hAB hRl F hL1 hgq hN hg'
           go_wp2
           go_roundg j
           case measure => omega
           case rel => exact ⟨j, R.set (j + n) y3, q.set j g', rfl, by omega, by go_num, hR2, HS8⟩
        ·have hb0 : br2 = 0 := by have := e8.2; omega
         subst hb0
         have cb1 : decide (X < 0) = false := decide_eq_false hneg
         have F := step_right HD.out HR.out hN.out (by rw [HQD.out]; exact hq1)
         have hgl : g < 16777216 := by rw [F.1, HQD.out]; exact hqb
         have hR2 := Lib.hid (HR.out.next (by omega) F.2 hgl)
         have HS7 := Lib.hid (HS6.out.setQ j g)
         obtain ⟨cqA, fqA⟩ := HS6.out.q.cell (k := j) (by omega)
         clear F hN e8
         go_wp2
         go_roundg j
         case measure => omega
         case rel => exact ⟨j, Q1, q.set j g, rfl, by omega, by go_num, hR2, HS7⟩
    ·obtain rfl : 0 = j := by omega
     have h0' : ¬ (0 : Int) ≤ ((0 : Nat) : Int) - 1 := by omega
     have hUlt : Hid (lV U < 16777216 ^ n) := by
      have a1 := HR.out.lt
      rw [Nat.pow_zero, Nat.mul_one] at a1
      exact Nat.lt_trans a1 HD.out.lt
     have hDn := Lib.hid HR.out.done
     have hLU := Lib.hid HR.out.lU
     have hLq := Lib.hid HR.out.lq
     have hbr := HS.out.b.size
     have hand := andL
     clear hgk
     go_wp2_with (at_make; refine wpList_make_full _ rfl _ _ 57 rfl w1.heap.size 3 i0 (.int .i64 0) 1 Tryz.underlying57 hi hz0 hz1 .i64 .i64 _ _ n rfl rfl (by omega) (by omega) (by rw [hz2]; omega) (by unfold maxLen; omega) (by omega) ?_; intro w6 hown6 hgrow6)
     have hb6 : Below wr.heap.size wr w6 := (Below.refl _ _).grown hgrow6 (Nat.le_refl _) (fun k hk => by cases hk)
     have HS2 : Hid (St w1 w6 gu cu wr.heap.size n gq (na + 1) n m U (List.replicate n 0) q) :=
      ⟨HS.out.u.below hb6, made_row hown6, HS.out.q.below hb6, by have := HS.out.u.lt; omega, HS.out.uq, by have := HS.out.q.lt; omega, bt HS.out.b hb6⟩
     obtain ⟨gr, hgr⟩ : ∃ g, wr.heap.size = g := ⟨_, rfl⟩
     rw [hgr] at HS2 ⊢
     have HB0 : Hid (BackRel U s 0 (List.replicate n 0)) := ⟨fun x hx => by have := List.eq_of_mem_replicate hx; omega, by simp [lV]⟩
     clear hown6 hgrow6 hb6 hgr HS hbr HR
     go_loopg [28] n (fun gh iv wx => ∃ (i : Nat) (rl : List Nat), gh = n - i ∧ i ≤ n ∧ iv = .int .i64 i ∧ Hid (BackRel U s i rl) ∧ Hid (St w1 wx gu cu gr n gq (na + 1) n m U rl q))
     case atStart => exact ⟨0, _, by omega, by omega, rfl, HB0, HS2⟩
     case round =>
      clear HB0 HS2
      obtain ⟨i, rl, hgk4, hin, rfl, hBk, HS⟩ := hrel
      have hrl := HS.out.v.length
      by_cases hlt : i < n
      ·have hlt2 : (i : Int) < (n : Int) := by omega
       obtain ⟨cuA, fuA⟩ := HS.out.u.cell (k := i) (by omega)
       obtain ⟨cuB, fuB⟩ := HS.out.u.cell (k := i + 1) (by omega)
       obtain ⟨crA, frA⟩ := HS.out.v.cell (k := i) (by omega)
       have ba := getD_lt hLU.out i
       have bb := getD_lt hLU.out (i + 1)
       have hN := hBk.out.next (y := (2 ^ (24 - s) * U.getD (i + 1) 0 + U.getD i 0 / 2 ^ s) % 16777216) hs (by rw [hrl]; exact hlt) rfl ba
       obtain ⟨a, haa⟩ : ∃ a, U.getD i 0 = a := ⟨_, rfl⟩
       obtain ⟨b', hbb⟩ : ∃ a, U.getD (i + 1) 0 = a := ⟨_, rfl⟩
       rw [haa] at cuA ba hN
       rw [hbb] at cuB bb hN
       obtain ⟨A1, B1, N1, y, s1, s2, s3, s4, s5, s6, s7, s8⟩ := back_step ba bb hs
       rw [s8] at hN
       have HN := Lib.hid hN
       have HS3 := Lib.hid (HS.out.setV i y)
       have j1 : (i : Int) + 1 < (na : Int) + 1 := by omega
       have j2 : ((i : Int) + 1).toNat = i + 1 := by omega
       have j3 : (i : Int) < (na : Int) + 1 := by omega
       have j4 : ((24 : Int) - (s : Int)).toNat = 24 - s := by omega
       have j5 : IntKind.u64.wrap ((24 : Int) - (s : Int)) = (24 : Int) - (s : Int) := by rw [IntKind.wrap_u64]; omega
       have j6 : 0 ≤ (24 : Int) - (s : Int) := by omega
       have j7 : (24 : Int) - (s : Int) ≤ 64 := by omega
       have j8 : (s : Int) ≤ 64 := by omega
       have hia : i < na := by omega
       have hia2 : (i : Int) < (na : Int) := by omega
       have wI : IntKind.i64.wrap ((i : Int) + 1) = (i : Int) + 1 := IntWalk.i64_in _ (by omega)
       have pI : 0 ≤ (i : Int) + 1 := by omega
       have j9 : s ≤ 24 := by omega
       have k1 : (s : Int) ≤ 24 := by omega
       clear haa hbb s8 hN hBk hrl
       go_wp2_with fail
       go_still_tail 18, (by kernel_rfl)
       change wpList _ _ _ _ _ wr.drew
       have HS4 := Lib.hid (HS.out.drewN 1)
       have HS5 := Lib.hid (HS4.out.setV i y)
       obtain ⟨crB, frB⟩ := HS4.out.v.cell (k := i) (by omega)
       clear HS HS3 cuA fuA cuB fuB crA frA HS4
       change Hid (St w1 (wr.drew.setCell _ _) gu cu gr n gq (na + 1) n m U (rl.set i y) q) at HS5
       change wr.drew.cell? _ = _ at crB
       change wr.drew.frozen? _ = _ at frB
       generalize wr.drew = wr at *
       go_wp2
       go_roundg (n - (i + 1))
       case measure => omega
       case rel => exact ⟨i + 1, rl.set i y, rfl, by omega, by go_num, HN, HS5⟩
      ·obtain rfl : n = i := by omega
       have hlt2 : ¬ (n : Int) < (n : Int) := by omega
       have hV := hBk.out.done hrl hLU.out hUlt.out
       have hrow1 := HS.out.q.rowN
       have hrow2 := HS.out.v.rowN
       have hql := HS.out.q.length
       have hT1 := trim_any _ m _ q wr hrow1 (by omega)
       have hT2 := trim_any _ n _ rl wr hrow2 (by omega)
       rw [hql] at hT1
       rw [hrl] at hT2
       have HT1 := Lib.hid hT1
       have HT2 := Lib.hid hT2
       have hfin := div_back (a := lV la) (b := lV lb) (s := s)
       rw [HU0.out, ← HV.out, ← hDn.out.1, ← hDn.out.2, ← hV] at hfin
       have HF := Lib.hid hfin
       have HLr := Lib.hid hBk.out.1
       have HR1 := Lib.hid (hrow1.base (b' := w.heap.size) hbs0)
       have HR2 := Lib.hid (hrow2.base (b' := w.heap.size) hbs0)
       have HBW := Lib.hid (bt b HS.out.b)
       have HQL := Lib.hid hql
       have HRL := Lib.hid hrl
       clear hT1 hT2 hfin hrow1 hrow2 hql hrl hV hBk
       go_wp2_with fail
       refine HT1.out.mono ?_
       rintro e w2 ⟨m1, hm1, rfl, rfl, hv1, ht1⟩
       go_wp2_with fail
       refine HT2.out.mono ?_
       rintro e w2 ⟨m2, hm2, rfl, rfl, hv2, ht2⟩
       have Z : DivPost (lV la) (lV lb) w (.returned (.tuple #[.slice (some ⟨gq, 0, none⟩) m1 m, .slice (some ⟨gr, 0, none⟩) m2 n])) wr := by
        have hL1 : (q.take m1).length = m1 := by rw [List.length_take]; omega
        have hL2 : (rl.take m2).length = m2 := by rw [List.length_take]; omega
        exact ⟨_, m, q.take m1, _, n, rl.take m2, by rw [hL1, hL2], ⟨hLq.out.take m1, ht1, by rw [hv1]; exact HF.out.1⟩, ⟨HLr.out.take m2, ht2, by rw [hv2]; exact HF.out.2⟩, HR1.out.take hm1, HR2.out.take hm2, HBW.out⟩
       have HZ := Lib.hid Z
       clear Z hv1 ht1 hv2 ht2
       go_wp2
       go_ret2
       exact HZ.out
end Go.Proofs.YtdajgcgliidjbaaGreat
namespace Go.Proofs.YtdajgcgliidjbaaGreat
open Go.RowKit
theorem div_any (b1 b2 ca cb : Nat) (A B : Option Addr) (la lb : List Nat) (w : World) (ha : RowN w b1 A ca la) (hb : RowN w b2 B cb lb) (La : Limbs la) (Lb : Limbs lb) (ta : Trimmed la) (tb : Trimmed lb) (hla : la.length ≤ 400000) (h0 : 0 < lV lb) :
  Calls Tryz.prog 137 #[.slice A la.length ca, .slice B lb.length cb] w (DivPost (lV la) (lV lb) w) := by
 by_cases hlt : lV la < lV lb
 ·exact div_less b1 b2 ca cb A B la lb w ha hb La Lb ta tb hla hlt
 by_cases h1 : lb.length = 1
 ·obtain ⟨d, rfl⟩ : ∃ d, lb = [d] := by
   cases lb with
   | nil => cases h1
   | cons d r =>
    have : r = [] := List.eq_nil_of_length_eq_zero (by simpa using h1)
    exact ⟨d, by rw [this]⟩
  have hv : lV [d] = d := by simp [lV]
  rw [hv] at h0 hlt ⊢
  exact div_one b1 b2 ca cb d A B la w ha hb La Lb ta tb hla (by omega) h0
 ·have h2 : 2 ≤ lb.length := by
   rcases Nat.lt_or_ge lb.length 2 with h | h
   ·exfalso
    have : lb = [] := List.eq_nil_of_length_eq_zero (by omega)
    rw [this] at h0
    exact absurd h0 (by simp [lV])
   ·exact h
  exact div_many b1 b2 ca cb A B la lb w ha hb La Lb ta tb hla (by omega) h2
theorem gV_empty {s : ByteArray} (h : s.size = 0) : gV s = 0 := by
 have : s.data.toList = [] := List.eq_nil_of_length_eq_zero (by simpa using h)
 unfold gV; rw [this]; rfl
theorem gV_pos {s : ByteArray} (ok : okG s = true) (h : 0 < s.size) : 0 < gV s := Nat.lt_of_lt_of_le (Nat.pow_pos (by omega)) (gV_ge ok h)
end Go.Proofs.YtdajgcgliidjbaaGreat

/-
  The contracts of spec.RestOf, PowRest, InverseRest, NegRest, HalfRest.
-/
import Derived.Test.YtmiolkgkgohniaaRSpec
namespace Go.Proofs.Ytmiolkgkgohniaa
open Go.RowKit

set_option maxRecDepth 8000 in
set_option maxHeartbeats 2000000 in
theorem restOf_any (a p : ByteArray) (w : World) : Calls Try.prog 17 #[.string a, .string p] w fun e w' => e = .returned (.string (restG a p)) ∧ Below w.heap.size w w' := by
  have HM := mod_any p
  have HA := greatOk_any a
  unfold restG
  cases hm : modB p with
  | false =>
    rw [hm] at HM
    rw [Bool.false_and, if_neg (by decide)]
    go_enter Try.func17, Try.ntmps17
    go_wp2_with fail
    refine (HM _).mono ?_
    rintro e w1 ⟨rfl, rfl⟩
    go_wp2
    go_ret
    exact ⟨rfl, Below.refl _ _⟩
  | true =>
    rw [hm] at HM
    rw [Bool.true_and]
    cases ha : okG a with
    | false =>
      rw [ha] at HA
      rw [if_neg (by decide)]
      go_enter Try.func17, Try.ntmps17
      go_wp2_with fail
      refine (HM _).mono ?_
      rintro e w1 ⟨rfl, rfl⟩
      go_wp2_with fail
      refine (HA _).mono ?_
      rintro e w1 ⟨rfl, rfl⟩
      go_wp2
      go_ret
      exact ⟨rfl, Below.refl _ _⟩
    | true =>
      rw [ha] at HA
      rw [if_pos rfl]
      obtain ⟨okp, h1⟩ := modB_parts hm
      have sa := okG_size ha
      have sp := okG_size okp
      have hsm := sm_one (gV_lt ha)
      have hpG := gV_lt okp
      obtain ⟨x, hx⟩ : ∃ x, gV a = x := ⟨_, rfl⟩
      obtain ⟨n, hn⟩ : ∃ n, gV p = n := ⟨_, rfl⟩
      have IA := Lib.hid (fun w => in_x a w (by omega))
      have IP := Lib.hid (fun w => in_x p w (by omega))
      rw [hx] at IA hsm
      rw [hn] at IP h1 hpG
      rw [hx, hn]
      clear hm ha okp hx hn
      go_enter Try.func17, Try.ntmps17
      go_wp2_with fail
      refine (HM _).mono ?_
      rintro e w1 ⟨rfl, rfl⟩
      go_wp2_with fail
      refine (HA _).mono ?_
      rintro e w1 ⟨rfl, rfl⟩
      clear HM HA
      go_wp2_with fail
      refine (IA.out _).mono ?_
      rintro e w2 ⟨u, rfl, hu, b2⟩
      obtain ⟨au, nu, cu, rfl⟩ := hu.shape
      have HU := Lib.hid hu
      clear hu IA
      go_wp2_with fail
      refine (IP.out _).mono ?_
      rintro e w4 ⟨q, rfl, hq, b4⟩
      obtain ⟨aq, nq, cq, rfl⟩ := hq.shape
      have L1 := Lib.hid (div_x (HU.out.below b4) hq hsm (by omega))
      have B4 := Lib.hid (bt b2 b4)
      clear hq IP HU b2 b4
      go_wp2_with fail
      refine L1.out.mono ?_
      rintro e w5 ⟨d, s, rfl, hd, hs, b5⟩
      obtain ⟨as', ns, cs, rfl⟩ := hs.shape
      obtain ⟨ad, nd, cd, rfl⟩ := hd.shape
      have O1 := Lib.hid (out_x hs (sm_one (Nat.lt_trans (Nat.mod_lt _ (by omega)) hpG)))
      have B5 := Lib.hid (bt B4.out b5)
      clear hs hd b5 L1 B4
      go_wp2_with fail
      refine O1.out.mono ?_
      rintro e w6 ⟨rfl, b6⟩
      have b7 := bt B5.out b6
      clear O1 b6 B5
      go_wp2
      go_ret
      exact ⟨rfl, b7⟩
set_option maxRecDepth 8000 in
set_option maxHeartbeats 2000000 in
theorem powRest_any (a m p : ByteArray) (w : World) : Calls Try.prog 33 #[.string a, .string m, .string p] w fun e w' => e = .returned (.string (powR a m p)) ∧ Below w.heap.size w w' := by
  have HM := mod_any p
  have HR := restOk_any a p
  have HA := greatOk_any m
  unfold powR oneB
  cases hm : modB p with
  | false =>
    rw [hm] at HM
    rw [Bool.false_and, Bool.false_and, if_neg (by decide)]
    go_enter Try.func33, Try.ntmps33
    go_wp2_with fail
    refine (HM _).mono ?_
    rintro e w1 ⟨rfl, rfl⟩
    go_wp2
    go_ret
    exact ⟨rfl, Below.refl _ _⟩
  | true =>
    rw [hm] at HM
    rw [Bool.true_and]
    cases hr : restB a p with
    | false =>
      rw [hr] at HR
      rw [Bool.false_and, if_neg (by decide)]
      go_enter Try.func33, Try.ntmps33
      go_wp2_with fail
      refine (HM _).mono ?_
      rintro e w1 ⟨rfl, rfl⟩
      go_wp2_with fail
      refine (HR _).mono ?_
      rintro e w1 ⟨rfl, b1⟩
      go_wp2
      go_ret
      exact ⟨rfl, b1⟩
    | true =>
      rw [hr] at HR
      rw [Bool.true_and]
      cases ha : okG m with
      | false =>
        rw [ha] at HA
        rw [if_neg (by decide)]
        go_enter Try.func33, Try.ntmps33
        go_wp2_with fail
        refine (HM _).mono ?_
        rintro e w1 ⟨rfl, rfl⟩
        go_wp2_with fail
        refine (HR _).mono ?_
        rintro e w1 ⟨rfl, b1⟩
        go_wp2_with fail
        refine (HA _).mono ?_
        rintro e w2 ⟨rfl, rfl⟩
        go_wp2
        go_ret
        exact ⟨rfl, b1⟩
      | true =>
        rw [ha] at HA
        rw [if_pos rfl]
        obtain ⟨okp, h1⟩ := modB_parts hm
        obtain ⟨oka, _, hap⟩ := restB_parts hr
        have sa := okG_size oka
        have sp := okG_size okp
        have hpG := gV_lt okp
        have HOK := Lib.hid ha
        obtain ⟨x, hx⟩ : ∃ x, gV a = x := ⟨_, rfl⟩
        obtain ⟨n, hn⟩ : ∃ n, gV p = n := ⟨_, rfl⟩
        have IA := Lib.hid (fun w => in_x a w (by omega))
        have IP := Lib.hid (fun w => in_x p w (by omega))
        rw [hx] at IA hap
        rw [hn] at IP h1 hpG hap
        rw [hx, hn]
        clear hm ha okp oka hr hx hn
        go_enter Try.func33, Try.ntmps33
        go_wp2_with fail
        refine (HM _).mono ?_
        rintro e w1 ⟨rfl, rfl⟩
        go_wp2_with fail
        refine (HR _).mono ?_
        rintro e w1 ⟨rfl, b1⟩
        go_wp2_with fail
        refine (HA _).mono ?_
        rintro e w2 ⟨rfl, rfl⟩
        clear HM HA HR
        go_wp2_with fail
        refine (IA.out _).mono ?_
        rintro e w2 ⟨u, rfl, hu, b2⟩
        obtain ⟨au, nu, cu, rfl⟩ := hu.shape
        have HU := Lib.hid hu
        clear hu IA
        go_wp2_with fail
        refine (IP.out _).mono ?_
        rintro e w4 ⟨q, rfl, hq, b4⟩
        obtain ⟨aq, nq, cq, rfl⟩ := hq.shape
        have L1 := Lib.hid (lpow_x m (HU.out.below b4) hq HOK.out (by omega) hpG (by omega))
        have B4 := Lib.hid (bt (bt b1 b2) b4)
        clear hq IP HU b1 b2 b4
        go_wp2_with fail
        refine L1.out.mono ?_
        rintro e w5 ⟨s, rfl, hs, b5⟩
        obtain ⟨as', ns, cs, rfl⟩ := hs.shape
        have O1 := Lib.hid (out_x hs (sm_one (Nat.lt_trans (Nat.mod_lt _ (by omega)) hpG)))
        have B5 := Lib.hid (bt B4.out b5)
        clear hs b5 L1 B4
        go_wp2_with fail
        refine O1.out.mono ?_
        rintro e w6 ⟨rfl, b6⟩
        have b7 := bt B5.out b6
        clear O1 b6 B5
        go_wp2
        go_ret
        exact ⟨rfl, b7⟩
theorem negRest_any (a p : ByteArray) (w : World) : Calls Try.prog 41 #[.string a, .string p] w fun e w' => e = .returned (.string (negR a p)) ∧ Below w.heap.size w w' := by
  unfold negR
  go_enter Try.func41, Try.ntmps41
  go_wp2_with fail
  refine (subRest_any _ a p _).mono ?_
  rintro e w1 ⟨rfl, b1⟩
  go_wp2
  go_ret
  exact ⟨rfl, b1⟩
def InvG (a p : ByteArray) (w : World) (e : Ending) (w' : World) : Prop := e = .returned (.tuple #[.string (invR a p), .bool (invB a p)]) ∧ Below w.heap.size w w'
theorem InvG.no {a p : ByteArray} {w w' : World} (h : invB a p = false) (b : Below w.heap.size w w') : InvG a p w (.returned (.tuple #[.string ⟨#[]⟩, .bool false])) w' := by
  unfold InvG invR; rw [h]; exact ⟨rfl, b⟩
theorem InvG.yes {a p : ByteArray} {w w' : World} {x : Nat} (h : invB a p = true) (hx : x < gV p) (e : x * gV a % gV p = 1) (b : Below w.heap.size w w') : InvG a p w (.returned (.tuple #[.string (gS x), .bool true])) w' := by
  unfold InvG invR; rw [h, if_pos rfl, invN_eq hx e]; exact ⟨rfl, b⟩
set_option maxRecDepth 8000 in
set_option maxHeartbeats 2000000 in
theorem inverseRest_any (a p : ByteArray) (w : World) : Calls Try.prog 27 #[.string a, .string p] w (InvG a p w) := by
  have HM := mod_any p
  have HR := restOk_any a p
  cases hm : modB p with
  | false =>
    rw [hm] at HM
    have N := Lib.hid (InvG.no (a := a) (p := p) (w := w) (w' := w) (by unfold invB oneB; rw [hm]; rfl) (Below.refl _ _))
    go_enter Try.func27, Try.ntmps27
    go_wp2_with fail
    refine (HM _).mono ?_
    rintro e w1 ⟨rfl, rfl⟩
    go_wp2
    go_ret2
    exact N.out
  | true =>
    rw [hm] at HM
    cases hr : restB a p with
    | false =>
      rw [hr] at HR
      have N := Lib.hid (fun w' => InvG.no (a := a) (p := p) (w := w) (w' := w') (by unfold invB oneB; rw [hm, hr]; rfl))
      go_enter Try.func27, Try.ntmps27
      go_wp2_with fail
      refine (HM _).mono ?_
      rintro e w1 ⟨rfl, rfl⟩
      go_wp2_with fail
      refine (HR _).mono ?_
      rintro e w1 ⟨rfl, b1⟩
      go_wp2
      go_ret2
      exact N.out _ b1
    | true =>
      rw [hr] at HR
      obtain ⟨okp, h1⟩ := modB_parts hm
      obtain ⟨oka, _, hap⟩ := restB_parts hr
      have hI : invB a p = decide (Nat.gcd (gV p) (gV a) = 1) := by unfold invB oneB; rw [hm, hr]; rfl
      have sa := okG_size oka
      have sp := okG_size okp
      have hpG := gV_lt okp
      have IA := Lib.hid (fun w => in_x a w (by omega))
      have IP := Lib.hid (fun w => in_x p w (by omega))
      have HI := Lib.hid hI
      clear hm okp oka hr hI
      go_enter Try.func27, Try.ntmps27
      go_wp2_with fail
      refine (HM _).mono ?_
      rintro e w1 ⟨rfl, rfl⟩
      go_wp2_with fail
      refine (HR _).mono ?_
      rintro e w1 ⟨rfl, b1⟩
      clear HM HR
      go_wp2_with fail
      refine (IA.out _).mono ?_
      rintro e w2 ⟨u, rfl, hu, b2⟩
      obtain ⟨au, nu, cu, rfl⟩ := hu.shape
      have HU := Lib.hid hu
      clear hu IA
      go_wp2_with fail
      refine (IP.out _).mono ?_
      rintro e w4 ⟨q, rfl, hq, b4⟩
      obtain ⟨aq, nq, cq, rfl⟩ := hq.shape
      have L1 := Lib.hid (linv_x (HU.out.below b4) hq hap hpG h1)
      have B4 := Lib.hid (bt (bt b1 b2) b4)
      clear hq IP HU b1 b2 b4
      go_wp2_with fail
      refine L1.out.mono ?_
      rintro e w5 ⟨s, x, rfl, hs, hxn, hxa, b5⟩
      obtain ⟨as', ns, cs, rfl⟩ := hs.shape
      have B5 := bt B4.out b5
      by_cases hg : Nat.gcd (gV p) (gV a) = 1
      · rw [decide_eq_true hg]
        have O1 := Lib.hid (out_x hs (sm_one (Nat.lt_trans hxn hpG)))
        rw [hg, Nat.mod_eq_of_lt h1] at hxa
        have Y := Lib.hid (fun w' => InvG.yes (a := a) (p := p) (w := w) (w' := w') (by rw [HI.out, decide_eq_true hg]) hxn hxa)
        clear hs b5 L1 B4 HI hg hxa
        go_wp2_with fail
        refine O1.out.mono ?_
        rintro e w6 ⟨rfl, b6⟩
        have b7 := bt B5 b6
        clear O1 b6 B5
        go_wp2
        go_ret2
        exact Y.out _ b7
      · rw [decide_eq_false hg]
        have N := Lib.hid (InvG.no (a := a) (p := p) (w := w) (w' := w5) (by rw [HI.out, decide_eq_false hg]) B5)
        clear hs b5 L1 B4 HI hg hxa B5
        go_wp2
        go_ret2
        exact N.out
theorem bit_zero {p : ByteArray} (ok : okG p = true) (h : 1 < gV p) : bitG p 0 = ((gV p % 2 : Nat) : Int) := by
  unfold bitG
  have hs : 0 < p.size := by
    rcases Nat.eq_zero_or_pos p.size with e | e
    · have := gV_empty e; omega
    · exact e
  rw [ok, decide_eq_true (show (0 : Int) ≤ 0 by omega), decide_eq_true (show (0 : Int).toNat / 8 < p.size by simpa using hs)]
  simp
set_option maxRecDepth 8000 in
set_option maxHeartbeats 2000000 in
theorem halfRest_any (a p : ByteArray) (w : World) : Calls Try.prog 29 #[.string a, .string p] w fun e w' => e = .returned (.string (halfR a p)) ∧ Below w.heap.size w w' := by
  have HM := mod_any p
  have HR := restOk_any a p
  unfold halfR halfB oneB
  cases hm : modB p with
  | false =>
    rw [hm] at HM
    rw [Bool.false_and, Bool.false_and, if_neg (by decide)]
    go_enter Try.func29, Try.ntmps29
    go_wp2_with fail
    refine (HM _).mono ?_
    rintro e w1 ⟨rfl, rfl⟩
    go_wp2
    go_ret
    exact ⟨rfl, Below.refl _ _⟩
  | true =>
    rw [hm] at HM
    rw [Bool.true_and]
    cases hr : restB a p with
    | false =>
      rw [hr] at HR
      rw [Bool.false_and, if_neg (by decide)]
      go_enter Try.func29, Try.ntmps29
      go_wp2_with fail
      refine (HM _).mono ?_
      rintro e w1 ⟨rfl, rfl⟩
      go_wp2_with fail
      refine (HR _).mono ?_
      rintro e w1 ⟨rfl, b1⟩
      go_wp2
      go_ret
      exact ⟨rfl, b1⟩
    | true =>
      rw [hr] at HR
      rw [Bool.true_and]
      obtain ⟨okp, h1⟩ := modB_parts hm
      obtain ⟨oka, _, hap⟩ := restB_parts hr
      have HBt := fun w => bitOf_any p 0 w (by omega)
      rw [bit_zero okp h1] at HBt
      by_cases ho : gV p % 2 = 1
      · rw [decide_eq_true ho, if_pos rfl]
        rw [ho] at HBt
        have sa := okG_size oka
        have sp := okG_size okp
        have hpG := gV_lt okp
        obtain ⟨x, hx⟩ : ∃ x, gV a = x := ⟨_, rfl⟩
        obtain ⟨n, hn⟩ : ∃ n, gV p = n := ⟨_, rfl⟩
        have IA := Lib.hid (fun w => in_x a w (by omega))
        have IP := Lib.hid (fun w => in_x p w (by omega))
        rw [hx] at IA hap
        rw [hn] at IP h1 hpG hap
        rw [hx, hn]
        have hlt : halfN x n < GB := by unfold halfN; split <;> omega
        clear hm okp oka hr hx hn ho
        go_enter Try.func29, Try.ntmps29
        go_wp2_with fail
        refine (HM _).mono ?_
        rintro e w1 ⟨rfl, rfl⟩
        go_wp2_with fail
        refine (HR _).mono ?_
        rintro e w1 ⟨rfl, b1⟩
        go_wp2_with fail
        refine (HBt _).mono ?_
        rintro e w2 ⟨rfl, rfl⟩
        clear HM HR HBt
        go_wp2_with fail
        refine (IA.out _).mono ?_
        rintro e w2 ⟨u, rfl, hu, b2⟩
        obtain ⟨au, nu, cu, rfl⟩ := hu.shape
        have HU := Lib.hid hu
        clear hu IA
        go_wp2_with fail
        refine (IP.out _).mono ?_
        rintro e w4 ⟨q, rfl, hq, b4⟩
        obtain ⟨aq, nq, cq, rfl⟩ := hq.shape
        have L1 := Lib.hid (lhalf_x (HU.out.below b4) hq hap hpG)
        have B4 := Lib.hid (bt (bt b1 b2) b4)
        clear hq IP HU b1 b2 b4
        go_wp2_with fail
        refine L1.out.mono ?_
        rintro e w5 ⟨s, rfl, hs, b5⟩
        obtain ⟨as', ns, cs, rfl⟩ := hs.shape
        have O1 := Lib.hid (out_x (x := halfN x n) hs (sm_one hlt))
        have B5 := Lib.hid (bt B4.out b5)
        clear hs b5 L1 B4
        go_wp2_with fail
        refine O1.out.mono ?_
        rintro e w6 ⟨rfl, b6⟩
        have b7 := bt B5.out b6
        clear O1 b6 B5
        go_wp2
        go_ret
        exact ⟨rfl, b7⟩
      · rw [decide_eq_false ho, if_neg (by decide)]
        have h0 : gV p % 2 = 0 := by omega
        rw [h0] at HBt
        clear hm okp oka hr ho h0 hap h1
        go_enter Try.func29, Try.ntmps29
        go_wp2_with fail
        refine (HM _).mono ?_
        rintro e w1 ⟨rfl, rfl⟩
        go_wp2_with fail
        refine (HR _).mono ?_
        rintro e w1 ⟨rfl, b1⟩
        go_wp2_with fail
        refine (HBt _).mono ?_
        rintro e w2 ⟨rfl, rfl⟩
        clear HM HR HBt
        go_wp2
        go_ret
        exact ⟨rfl, b1⟩
end Go.Proofs.Ytmiolkgkgohniaa

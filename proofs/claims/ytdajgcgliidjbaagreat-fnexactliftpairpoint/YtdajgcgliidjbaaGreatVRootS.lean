import Derived.Test.YtdajgcgliidjbaaGreatVImpl
import Derived.Test.YtdajgcgliidjbaaGreatJTri
import Derived.Test.YtdajgcgliidjbaaGreatUInvs
set_option maxRecDepth 8000
set_option maxHeartbeats 8000000
namespace Go.Proofs.YtdajgcgliidjbaaGreat
open Go.RowKit
theorem row_no (w : World) : RowX w (.slice none 0 0) 0 := ⟨0, none, 0, [], rfl, World.ownsRow_nil _ _ _ _, ⟨Limbs.nil, .inl rfl, rfl⟩⟩
theorem modB_num {n : Nat} (h : n < GB) (h1 : 1 < n) : modB (gS n) = true := by unfold modB; rw [okS h, gV_gS, decide_eq_true h1]; rfl
def Root3 (a n : Nat) (w : World) (e : Ending) (w' : World) : Prop := ∃ v x, e = .returned v ∧ RowX w' v x ∧ x < n ∧ x * x % n = a ∧ Below w.heap.size w w'
theorem twos_3 {n : Nat} (h4 : n % 4 = 3) : twosN (n - 1) = 1 ∧ oddN (n - 1) = (n - 1) / 2 := by
 have e1 : twosN (n - 1) = 1 := by rw [twosN_even (by omega) (by omega), twosN_odd (by omega)]
 refine ⟨e1, ?_⟩
 unfold oddN
 rw [e1, Nat.pow_one]
theorem root3_sq {n a q : Nat} (pp : PrimeP n) (h4 : n % 4 = 3) (hq : (n - 1) / 2 = q) (ha : a < n) (h : 0 ≤ symN a n) : (a ^ ((q + 1) / 2) % n) * (a ^ ((q + 1) / 2) % n) % n = a := by
 have h3 := pp.ge
 obtain ⟨m, hm⟩ : ∃ m, (q + 1) / 2 = m := ⟨_, rfl⟩
 have hq2 : m + m = q + 1 := by omega
 rw [hm, ← Nat.mul_mod, ← Nat.pow_add, hq2, Nat.pow_succ]
 rcases symN_three pp.prm h3 a with e | e | e
 ·rw [e] at h; exact absurd h (by decide)
 ·have := Nat.eq_zero_of_dvd_of_lt ((symN_zero pp.prm h3).1 e) ha
  rw [this, Nat.mul_zero, Nat.zero_mod]
 ·have h0 : ¬ n ∣ a := fun hd => by rw [(symN_zero pp.prm h3).2 hd] at e; cases e
  rcases symN_cases pp.prm h3 h0 with k | k
  ·rw [← hq, Nat.mul_mod, k.2, Nat.one_mul, Nat.mod_mod, Nat.mod_eq_of_lt ha]
  ·rw [k.1] at e; cases e
theorem root3_x {w : World} {u p : Value} {a n : Nat} (h : RowX w u a) (r : RowX w p n) (pp : PrimeP n) (h4 : n % 4 = 3) (ha : a < n) (hn : n < GB) (hsy : 0 ≤ symN a n) : Calls Tryz.prog 135 #[u, p] w (Root3 a n w) := by
 have h3 := pp.ge
 have HT := Lib.hid (twosIn_any (gS n))
 have ET : twosG (gS n) = 1 := by unfold twosG; rw [modB_num hn (by omega), if_pos rfl, gV_gS]; exact (twos_3 h4).1
 have EO : oddG (gS n) = gS ((n - 1) / 2) := by unfold oddG; rw [modB_num hn (by omega), if_pos rfl, gV_gS, (twos_3 h4).2]
 unfold TwosPost at HT
 rw [ET, EO, show ((1 : Nat) : Int) = 1 from rfl] at HT
 obtain ⟨q, hq⟩ : ∃ q, (n - 1) / 2 = q := ⟨_, rfl⟩
 have HL := Lib.hid (root3_sq pp h4 hq ha hsy)
 rw [hq] at HT
 have hqG : q < GB := by omega
 have hhG : (q + 1) / 2 < GB := by omega
 have I1 := Lib.hid (fun w => in_x (gS q) w (by have := gS_small hqG; omega))
 rw [gV_gS] at I1
 have O1 := Lib.hid (out_x r (sm_one hn))
 have HU := Lib.hid h
 have HP := Lib.hid r
 have HQok := Lib.hid (And.intro (okS hqG) (okS hhG))
 obtain ⟨au, nu, cu, rfl⟩ := h.shape
 obtain ⟨ap, np, cp, rfl⟩ := r.shape
 clear h r pp hsy ET EO hq
 generalize gS n = text at *
 go_enter Tryz.func135, Tryz.ntmps135
 go_wp2_with fail
 refine O1.out.mono ?_
 rintro e w1 ⟨rfl, b1⟩
 go_wp2_with fail
 refine (HT.out _).mono ?_
 rintro e w2 ⟨rfl, b2⟩
 have HB2 := Lib.hid (bt b1 b2)
 clear b1 b2 O1 HT
 go_wp2_with fail
 refine (I1.out _).mono ?_
 rintro e w3 ⟨v3, rfl, hv3, b3⟩
 have A1 := Lib.hid (add_x (hv3.below (below_one w3 ((1 : Nat) : Int))) (row_one w3 1 (by omega) (by omega)) (sm_one hqG) (sm_one GB_pos))
 obtain ⟨a3, n3, c3, rfl⟩ := hv3.shape
 have HB3 := Lib.hid (bt (bt HB2.out b3) (below_one w3 ((1 : Nat) : Int)))
 clear hv3 b3 I1 HB2
 go_wp2_with fail
 refine A1.out.mono ?_
 rintro e w4 ⟨v4, rfl, hv4, b4⟩
 have D1 := Lib.hid (div_x (hv4.below (below_one w4 ((2 : Nat) : Int))) (row_one w4 2 (by omega) (by omega)) (sm_add (x := q) (y := 1) (by omega) GB_pos) (by omega))
 obtain ⟨a4, n4, c4, rfl⟩ := hv4.shape
 have HB4 := Lib.hid (bt (bt HB3.out b4) (below_one w4 ((2 : Nat) : Int)))
 clear hv4 b4 A1 HB3
 go_wp2_with fail
 refine D1.out.mono ?_
 rintro e w5 ⟨v5, v6, rfl, hv5, hv6, b5⟩
 have O2 := Lib.hid (out_x hv5 (sm_one hhG))
 obtain ⟨a5, n5, c5, rfl⟩ := hv5.shape
 obtain ⟨a6, n6, c6, rfl⟩ := hv6.shape
 have HB5 := Lib.hid (bt HB4.out b5)
 clear hv5 hv6 b5 D1 HB4
 go_wp2_with fail
 refine O2.out.mono ?_
 rintro e w6 ⟨rfl, b6⟩
 have hB6 := bt HB5.out b6
 have P1 := Lib.hid (lpow_x (gS ((q + 1) / 2)) (HU.out.below hB6) (HP.out.below hB6) HQok.out.2 (by omega) hn (by omega))
 rw [gV_gS] at P1
 have HB6 := Lib.hid hB6
 clear b6 hB6 O2 HB5
 generalize gS ((q + 1) / 2) = tx at *
 go_wp2_with fail
 refine P1.out.mono ?_
 rintro e w7 ⟨v7, rfl, hv7, b7⟩
 have hB7 := bt HB6.out b7
 have P2 := Lib.hid (lpow_x (gS q) (HU.out.below hB7) (HP.out.below hB7) HQok.out.1 (by omega) hn (by omega))
 rw [gV_gS] at P2
 have HB7 := Lib.hid hB7
 have HX7 := Lib.hid hv7
 obtain ⟨a7, n7, c7, rfl⟩ := hv7.shape
 clear b7 hB7 HB6 hv7 P1
 go_wp2_with fail
 refine P2.out.mono ?_
 rintro e w8 ⟨v8, rfl, hv8, b8⟩
 have hB8 := bt HB7.out b8
 have HB8 := Lib.hid hB8
 have HX8 := Lib.hid (HX7.out.below b8)
 obtain ⟨a8, n8, c8, rfl⟩ := hv8.shape
 clear b8 hB8 HB7 hv8 P2 HX7
 have hlt : a ^ ((q + 1) / 2) % n < n := Nat.mod_lt _ (by omega)
 generalize a ^ ((q + 1) / 2) % n = X at *
 go_wp2
 go_ret
 exact ⟨_, X, rfl, HX8.out, hlt, HL.out, HB8.out⟩
theorem Begun.bare {w w' : World} {L : List (Nat × Array Value × TypeId)} {o : Nat} {Z : Array Value} {t : TypeId} (h : Begun w w' L o Z t) : Begun w w' [] o Z t := ⟨Held.none _, h.out, (fun q hq => by cases hq), h.b⟩
def Root8 (x : Pn) (n : Nat) (w : World) (e : Ending) (w' : World) : Prop := ∃ v y, e = .returned v ∧ PairX w' v y ∧ InP2 n y ∧ mulP n y y = x ∧ Below w.heap.size w w'
theorem l08_x {w : World} {vx vp : Value} {x : Pn} {n : Nat} (hx : PairX w vx x) (hp : RowX w vp n) (pp : PrimeP n) (h4 : n % 4 = 3) (ix : InP2 n x) (hn : n < GB) (hs : 0 ≤ symN (normP n x) n) : Calls Tryz.prog 87 #[vx, vp] w (Root8 x n w) := by
 obtain ⟨ax, bx, rfl, hx1, hx2⟩ := hx
 have HF0 := Lib.hid (F7.mk (x := x) (y := x) hx1 hx2 hx1 hx2 hp)
 obtain ⟨a1, n1, k1, rfl⟩ := hx1.shape
 obtain ⟨a2, n2, k2, rfl, hz, _⟩ := hx2.form
 obtain ⟨a3, n3, k3, rfl⟩ := hp.shape
 obtain ⟨qx, hqx⟩ : ∃ q : Array Value, #[.slice a1 n1 k1, .slice a2 n2 k2] = q := ⟨_, rfl⟩
 have HQX := Lib.hid hqx
 have hq2 : qx.size = 2 := by rw [← hqx]; rfl
 have HG0 := Lib.hid (begun2 (Held.none w) qx #[.slice none 0 0, .slice none 0 0] 59 59)
 have HP := Lib.hid pp
 have H4 := Lib.hid h4
 have HS := Lib.hid hs
 have h3 := pp.ge
 obtain ⟨i1, i2⟩ := ix
 obtain ⟨A, B⟩ := x
 replace i1 : A < n := i1
 replace i2 : B < n := i2
 replace hz : n2 = 0 ↔ B = 0 := hz
 have HI := Lib.hid (And.intro i1 i2)
 have h0 : 0 < n := by omega
 have HF1 := Lib.hid (HF0.out.on HG0.out.b)
 rw [hqx]
 clear hx1 hx2 hp hqx pp h4 hs HF0
 unfold Root8
 obtain ⟨c1, c2⟩ := pair_cells HQX.out (show _ = some (Obj.cells qx 59 (0, 0)) from HG0.out.h _ (.head _))
 by_cases hB : B = 0
 ·obtain rfl := hB
  obtain rfl := hz.2 rfl
  clear hz
  by_cases hsA : 0 ≤ symN A n
  ·have hgt : decide ((0 : Int) ≤ symN A n) = true := decide_eq_true hsA
   have hgt2 : (0 : Int) ≤ symN A n := hsA
   have HA := Lib.hid hsA
   have C1 := Lib.hid (fun w => @symbol_x w)
   go_enter Tryz.func87, Tryz.ntmps87
   go_wp2_with fail
   generalize (w.alloc _).alloc _ = w0 at *
   refine (symbol_x HF1.out.x1 HF1.out.p (by omega) hn (by omega)).mono ?_
   rintro e w1 ⟨rfl, b1⟩
   have HF2 := Lib.hid (HF1.out.on b1)
   have HG2 := Lib.hid (HG0.out.on b1)
   clear b1 HF1 HG0 c1 c2 C1
   obtain ⟨c1, c2⟩ := pair_cells HQX.out (show _ = some (Obj.cells qx 59 (0, 0)) from HG2.out.h _ (.head _))
   generalize symN A n = sA at hgt hgt2
   clear hsA
   go_wp2_with fail
   clear hgt hgt2
   refine (root3_x HF2.out.x1 HF2.out.p HP.out H4.out i1 hn HA.out).mono ?_
   rintro e w3 ⟨v3, s, rfl, r3, hsl, hss, b3⟩
   have HG3 := Lib.hid (HG2.out.on b3)
   have R3 := Lib.hid r3
   obtain ⟨a6, n6, k6, rfl⟩ := r3.shape
   have HM := Lib.hid (And.intro (show InP2 n (s, 0) from ⟨hsl, h0⟩) (root_a h0 hss i1))
   clear b3 HF2 HG2 c1 c2 r3 hsl hss
   have HU := Lib.hid (R3.out.setRow (C' := #[.slice a6 n6 k6, .slice none 0 0]) HG3.out.out (by decide))
   have HV := Lib.hid ((row_no w3).setRow (C' := #[.slice a6 n6 k6, .slice none 0 0]) HG3.out.out (by decide))
   have HE := Lib.hid (HG3.out.put (show w.heap.size ≤ w.heap.size + 1 by omega) #[.slice a6 n6 k6, .slice none 0 0])
   go_wp2_with (first | refine store_7 rfl (.tmp 4) (.tmp 23) rfl (w.heap.size + 1) _ #[.slice a6 n6 k6, .slice none 0 0] rfl rfl HG3.out.out rfl rfl (by simp [Value.oneCell']) ?_)
   exact bodyPost_ret (results_cell_row Tryz.results87 _ _ (w.heap.size + 1) _ _ _ _ rfl HE.out.out Tryz.underlying59 rfl Tryz.info7) rfl ⟨_, _, rfl, ⟨_, _, rfl, HU.out, HV.out⟩, HM.out.1, HM.out.2, HE.out.b⟩
  ·have hgt : decide ((0 : Int) ≤ symN A n) = false := decide_eq_false hsA
   have hgt2 : ¬ (0 : Int) ≤ symN A n := hsA
   have HA := Lib.hid (show 0 ≤ symN ((0 + n - A) % n) n from by rw [sym_neg HP.out H4.out A i1]; omega)
   go_enter Tryz.func87, Tryz.ntmps87
   go_wp2_with fail
   generalize (w.alloc _).alloc _ = w0 at *
   refine (symbol_x HF1.out.x1 HF1.out.p (by omega) hn (by omega)).mono ?_
   rintro e w1 ⟨rfl, b1⟩
   have hb2 := (Below.refl w1.heap.size w1).alloc (Nat.le_refl _) (.cells #[] 3)
   have HF2 := Lib.hid ((HF1.out.on b1).on hb2)
   have HG1 := Lib.hid (HG0.out.on b1)
   have HG2 := Lib.hid (HG1.out.on hb2)
   have L1 := Lib.hid (lsub_x (row_none w1) HF2.out.x1 HF2.out.p h0 i1 hn)
   clear b1 hb2 HF1 HG0 c1 c2
   obtain ⟨c1, c2⟩ := pair_cells HQX.out (show _ = some (Obj.cells qx 59 (0, 0)) from HG1.out.h _ (.head _))
   obtain ⟨c3, c4⟩ := pair_cells HQX.out (show _ = some (Obj.cells qx 59 (0, 0)) from HG2.out.h _ (.head _))
   generalize symN A n = sA at hgt hgt2
   clear hsA
   go_wp2_with fail
   clear hgt hgt2 c1 c2 c3 c4 HG1
   refine L1.out.mono ?_
   rintro e w3 ⟨v3, rfl, r3, b3⟩
   have HF3 := Lib.hid (HF2.out.on b3)
   have HG3 := Lib.hid (HG2.out.on b3)
   have R3 := Lib.hid r3
   obtain ⟨a5, n5, k5, rfl⟩ := r3.shape
   clear b3 HF2 HG2 r3 L1
   go_wp2_with fail
   refine (root3_x R3.out HF3.out.p HP.out H4.out (Nat.mod_lt _ h0) hn HA.out).mono ?_
   rintro e w4 ⟨v4, s, rfl, r4, hsl, hss, b4⟩
   have HG4 := Lib.hid (HG3.out.on b4)
   have R4 := Lib.hid r4
   obtain ⟨a6, n6, k6, rfl⟩ := r4.shape
   have HM := Lib.hid (And.intro (show InP2 n (0, s) from ⟨h0, hsl⟩) (root_b h0 i1 hss))
   clear b4 HF3 HG3 R3 r4 hsl hss
   have HU := Lib.hid ((row_no w4).setRow (C' := #[.slice none 0 0, .slice a6 n6 k6]) HG4.out.out (by decide))
   have HV := Lib.hid (R4.out.setRow (C' := #[.slice none 0 0, .slice a6 n6 k6]) HG4.out.out (by decide))
   have HE := Lib.hid (HG4.out.put (show w.heap.size ≤ w.heap.size + 1 by omega) #[.slice none 0 0, .slice a6 n6 k6])
   go_wp2_with (first | refine store_7 rfl (.tmp 4) (.tmp 31) rfl (w.heap.size + 1) _ #[.slice none 0 0, .slice a6 n6 k6] rfl rfl HG4.out.out rfl rfl (by simp [Value.oneCell']) ?_)
   exact bodyPost_ret (results_cell_row Tryz.results87 _ _ (w.heap.size + 1) _ _ _ _ rfl HE.out.out Tryz.underlying59 rfl Tryz.info7) rfl ⟨_, _, rfl, ⟨_, _, rfl, HU.out, HV.out⟩, HM.out.1, HM.out.2, HE.out.b⟩
 ·have hz0 : ((n2 : Int) == 0) = false := by simp; omega
  have hz1 : n2 ≠ 0 := fun h => hB (hz.1 h)
  have HBz := Lib.hid hB
  have HN1 := Lib.hid (norm_pos HP.out H4.out hB i2 HS.out)
  clear hz hB
  go_enter Tryz.func87, Tryz.ntmps87
  go_wp2_with (first | refine load_7 rfl (.tmp 2) rfl w.heap.size qx hq2 rfl (show _ = some (Obj.cells qx 59 (0, 0)) from HG0.out.h _ (.head _)) ?_)
  generalize (w.alloc _).alloc _ = w0 at *
  clear hz0 hz1 c1 c2
  have L1 := Lib.hid (lnorm7_x (vx := .agg qx) (x := (A, B)) ⟨_, _, by rw [HQX.out], HF1.out.x1, HF1.out.x2⟩ HF1.out.p ⟨i1, i2⟩ hn)
  refine L1.out.mono ?_
  rintro e w1 ⟨v1, rfl, r1, b1⟩
  have HG1 := Lib.hid (HG0.out.on b1)
  have HF2 := Lib.hid (HF1.out.on b1)
  have R1 := Lib.hid r1
  obtain ⟨a5, n5, k5, rfl⟩ := r1.shape
  clear b1 HG0 HF1 L1 r1
  go_wp2_with fail
  refine (root3_x R1.out HF2.out.p HP.out H4.out (normP_lt h0 _) hn HS.out).mono ?_
  rintro e w2 ⟨v2, r, rfl, r2, hrl, hrr, b2⟩
  have HG2 := Lib.hid (HG1.out.on b2)
  have HF3 := Lib.hid (HF2.out.on b2)
  have R2 := Lib.hid r2
  have HR2 := Lib.hid (And.intro hrl hrr)
  obtain ⟨a6, n6, k6, rfl⟩ := r2.shape
  clear b2 HG1 HF2 R1 r2 hrl hrr
  obtain ⟨c1, c2⟩ := pair_cells HQX.out (show _ = some (Obj.cells qx 59 (0, 0)) from HG2.out.h _ (.head _))
  go_wp2_with fail
  refine (ladd_x HF3.out.x1 R2.out HF3.out.p i1 HR2.out.1 hn).mono ?_
  rintro e w3 ⟨v3, rfl, r3, b3⟩
  have HG3 := Lib.hid (HG2.out.on b3)
  have HF4 := Lib.hid (HF3.out.on b3)
  have R3 := Lib.hid (R2.out.below b3)
  have T3 := Lib.hid r3
  obtain ⟨a7, n7, k7, rfl⟩ := r3.shape
  clear b3 HG2 HF3 R2 r3 c1 c2
  go_wp2_with fail
  refine (lhalf_x T3.out HF4.out.p (Nat.mod_lt _ h0) hn).mono ?_
  rintro e w4 ⟨v4, rfl, r4, b4⟩
  have HG4 := Lib.hid (HG3.out.on b4)
  have HF5 := Lib.hid (HF4.out.on b4)
  have R4 := Lib.hid (R3.out.below b4)
  have D4 : Hid (RowX w4 v4 (halfN ((A + r) % n) n)) := r4
  obtain ⟨a8, n8, k8, rfl⟩ := r4.shape
  clear b4 HG3 HF4 R3 T3 r4
  have hdl : halfN ((A + r) % n) n < n := halfN_lt (Nat.mod_lt _ h0)
  by_cases hd : symN (halfN ((A + r) % n) n) n = 1
  ·have hne : (symN (halfN ((A + r) % n) n) n != 1) = false := by rw [hd]; rfl
   have HD := Lib.hid hd
   generalize hdd : halfN ((A + r) % n) n = d at *
   have HDD := Lib.hid hdd.symm
   clear hd hdd
   go_wp2_with fail
   refine (symbol_x D4.out HF5.out.p (by omega) hn (by omega)).mono ?_
   rintro e w5 ⟨rfl, b5⟩
   have HG5 := Lib.hid (HG4.out.on b5)
   have HF6 := Lib.hid (HF5.out.on b5)
   have R5 := Lib.hid (R4.out.below b5)
   have D5 := Lib.hid (D4.out.below b5)
   clear b5 HG4 HF5 R4 D4
   rw [HD.out]
   clear hne
   go_wp2_with fail
   refine (root3_x D5.out HF6.out.p HP.out H4.out hdl hn (by rw [HD.out]; decide)).mono ?_
   rintro e w6 ⟨va, s, rfl, ra, hsl, hss, b⟩
   have HG6 := Lib.hid (HG5.out.on b)
   have HF7 := Lib.hid (HF6.out.on b)
   have S6 := Lib.hid ra
   obtain ⟨a9, n9, k9, rfl⟩ := ra.shape
   have hi := twice_inv HP.out (sq_pos HP.out HD.out hss)
   have HM := Lib.hid (root_half h0 (by have := H4.out; omega) i1 i2 HR2.out.1 HR2.out.2 (.inl HDD.out) hss hi.2.2)
   have HI2 := Lib.hid (And.intro hsl (And.intro hi.1 hi.2.1))
   have HIV := Lib.hid hi.2.2
   clear b HG5 HF6 D5 R5 ra hss hi
   go_wp2_with fail
   refine (ladd_x S6.out S6.out HF7.out.p HI2.out.1 HI2.out.1 hn).mono ?_
   rintro e w7 ⟨vt, rfl, rt, b⟩
   have HG7 := Lib.hid (HG6.out.on b)
   have HF8 := Lib.hid (HF7.out.on b)
   have S7 := Lib.hid (S6.out.below b)
   have T7 := Lib.hid rt
   obtain ⟨a10, n10, k10, rfl⟩ := rt.shape
   clear b HG6 HF7 S6 rt
   have L2 := Lib.hid (linv_x T7.out HF8.out.p (Nat.mod_lt _ h0) hn (by omega))
   unfold InvPost at L2
   obtain ⟨bb, hbb⟩ : ∃ b, decide (Nat.gcd n ((s + s) % n) = 1) = b := ⟨_, rfl⟩
   rw [hbb] at L2
   clear hbb
   go_wp2_with fail
   refine L2.out.mono ?_
   rintro e w8 ⟨vi, z, rfl, ri, hzl, hzz, b⟩
   have hzi : z = invN ((s + s) % n) n := by
    refine (invN_eq hzl ?_).symm
    rw [hzz, HI2.out.2.1, Nat.mod_eq_of_lt (by omega)]
   subst hzi
   have HG8 := Lib.hid (HG7.out.on b)
   have HF9 := Lib.hid (HF8.out.on b)
   have S8 := Lib.hid (S7.out.below b)
   have V8 := Lib.hid ri
   obtain ⟨a11, n11, k11, rfl⟩ := ri.shape
   clear b HG7 HF8 S7 T7 ri hzl hzz L2
   obtain ⟨c1, c2⟩ := pair_cells HQX.out (show _ = some (Obj.cells qx 59 (0, 0)) from HG8.out.h _ (.head _))
   generalize invN ((s + s) % n) n = z at *
   go_wp2_with fail
   refine (lmul_x HF9.out.x2 V8.out HF9.out.p (Nat.lt_trans i2 hn) (Nat.lt_trans HI2.out.2.2 hn) h0).mono ?_
   rintro e w9 ⟨vb, rfl, rb, b⟩
   have HG9 := Lib.hid (HG8.out.on b)
   have S9 := Lib.hid (S8.out.below b)
   have U9 := Lib.hid rb
   obtain ⟨a12, n12, k12, rfl⟩ := rb.shape
   have HM2 := Lib.hid (And.intro (show InP2 n (s, B * z % n) from ⟨HI2.out.1, Nat.mod_lt _ h0⟩) HM.out)
   clear b HG8 HF9 S8 V8 rb c1 c2 hsl
   have HU := Lib.hid (S9.out.setRow (C' := #[.slice a9 n9 k9, .slice a12 n12 k12]) HG9.out.out (by decide))
   have HV := Lib.hid (U9.out.setRow (C' := #[.slice a9 n9 k9, .slice a12 n12 k12]) HG9.out.out (by decide))
   have HE := Lib.hid (HG9.out.put (show w.heap.size ≤ w.heap.size + 1 by omega) #[.slice a9 n9 k9, .slice a12 n12 k12])
   go_wp2_with (first | refine store_7 rfl (.tmp 4) (.tmp 73) rfl (w.heap.size + 1) _ #[.slice a9 n9 k9, .slice a12 n12 k12] rfl rfl HG9.out.out rfl rfl (by simp [Value.oneCell']) ?_)
   exact bodyPost_ret (results_cell_row Tryz.results87 _ _ (w.heap.size + 1) _ _ _ _ rfl HE.out.out Tryz.underlying59 rfl Tryz.info7) rfl ⟨_, _, rfl, ⟨_, _, rfl, HU.out, HV.out⟩, HM2.out.1, HM2.out.2, HE.out.b⟩
  ·have hne : (symN (halfN ((A + r) % n) n) n != 1) = true := by simpa using hd
   have HD := Lib.hid (other_half HP.out H4.out i1 HBz.out i2 HR2.out.1 HR2.out.2 hd)
   have hdl2 : halfN ((A + n - r) % n) n < n := halfN_lt (Nat.mod_lt _ h0)
   generalize halfN ((A + r) % n) n = d at *
   generalize hsd : symN d n = sd at hd hne
   go_wp2_with fail
   refine (symbol_x D4.out HF5.out.p (by omega) hn (by omega)).mono ?_
   rintro e w5 ⟨rfl, b5⟩
   have HG5 := Lib.hid (HG4.out.on b5)
   have HF6 := Lib.hid (HF5.out.on b5)
   have R5 := Lib.hid (R4.out.below b5)
   clear b5 HG4 HF5 R4 D4
   rw [hsd]
   clear hsd
   obtain ⟨c1, c2⟩ := pair_cells HQX.out (show _ = some (Obj.cells qx 59 (0, 0)) from HG5.out.h _ (.head _))
   go_wp2_with fail
   clear hd hne
   refine (lsub_x HF6.out.x1 R5.out HF6.out.p i1 HR2.out.1 hn).mono ?_
   rintro e w6 ⟨v6, rfl, r6, b6⟩
   have HG6 := Lib.hid (HG5.out.on b6)
   have HF7 := Lib.hid (HF6.out.on b6)
   have R6 := Lib.hid (R5.out.below b6)
   have T6 := Lib.hid r6
   obtain ⟨a9, n9, k9, rfl⟩ := r6.shape
   clear b6 HG5 HF6 R5 r6 c1 c2
   go_wp2_with fail
   refine (lhalf_x T6.out HF7.out.p (Nat.mod_lt _ h0) hn).mono ?_
   rintro e w7 ⟨v7, rfl, r7, b7⟩
   have HG7 := Lib.hid (HG6.out.on b7)
   have HF8 := Lib.hid (HF7.out.on b7)
   have R7 := Lib.hid (R6.out.below b7)
   have D7 : Hid (RowX w7 v7 (halfN ((A + n - r) % n) n)) := r7
   obtain ⟨a10, n10, k10, rfl⟩ := r7.shape
   clear b7 HG6 HF7 R6 T6 r7
   generalize hdd : halfN ((A + n - r) % n) n = d2 at *
   have HDD := Lib.hid hdd.symm
   clear hdd
   go_wp2_with fail
   refine (root3_x D7.out HF8.out.p HP.out H4.out hdl2 hn (by rw [HD.out]; decide)).mono ?_
   rintro e w8 ⟨va, s, rfl, ra, hsl, hss, b⟩
   have HG8 := Lib.hid (HG7.out.on b)
   have HF9 := Lib.hid (HF8.out.on b)
   have S8 := Lib.hid ra
   obtain ⟨a11, n11, k11, rfl⟩ := ra.shape
   have hi := twice_inv HP.out (sq_pos HP.out HD.out hss)
   have HM := Lib.hid (root_half h0 (by have := H4.out; omega) i1 i2 HR2.out.1 HR2.out.2 (.inr HDD.out) hss hi.2.2)
   have HI2 := Lib.hid (And.intro hsl (And.intro hi.1 hi.2.1))
   have HIV := Lib.hid hi.2.2
   clear b HG7 HF8 D7 R7 ra hss hi
   go_wp2_with fail
   refine (ladd_x S8.out S8.out HF9.out.p HI2.out.1 HI2.out.1 hn).mono ?_
   rintro e w9 ⟨vt, rfl, rt, b⟩
   have HG9 := Lib.hid (HG8.out.on b)
   have HF10 := Lib.hid (HF9.out.on b)
   have S9 := Lib.hid (S8.out.below b)
   have T9 := Lib.hid rt
   obtain ⟨a12, n12, k12, rfl⟩ := rt.shape
   clear b HG8 HF9 S8 rt
   have L2 := Lib.hid (linv_x T9.out HF10.out.p (Nat.mod_lt _ h0) hn (by omega))
   unfold InvPost at L2
   obtain ⟨bb, hbb⟩ : ∃ b, decide (Nat.gcd n ((s + s) % n) = 1) = b := ⟨_, rfl⟩
   rw [hbb] at L2
   clear hbb
   go_wp2_with fail
   refine L2.out.mono ?_
   rintro e w10 ⟨vi, z, rfl, ri, hzl, hzz, b⟩
   have hzi : z = invN ((s + s) % n) n := by
    refine (invN_eq hzl ?_).symm
    rw [hzz, HI2.out.2.1, Nat.mod_eq_of_lt (by omega)]
   subst hzi
   have HG10 := Lib.hid (HG9.out.on b)
   have HF11 := Lib.hid (HF10.out.on b)
   have S10 := Lib.hid (S9.out.below b)
   have V10 := Lib.hid ri
   obtain ⟨a13, n13, k13, rfl⟩ := ri.shape
   clear b HG9 HF10 S9 T9 ri hzl hzz L2
   obtain ⟨c1, c2⟩ := pair_cells HQX.out (show _ = some (Obj.cells qx 59 (0, 0)) from HG10.out.h _ (.head _))
   generalize invN ((s + s) % n) n = z at *
   go_wp2_with fail
   refine (lmul_x HF11.out.x2 V10.out HF11.out.p (Nat.lt_trans i2 hn) (Nat.lt_trans HI2.out.2.2 hn) h0).mono ?_
   rintro e w11 ⟨vb, rfl, rb, b⟩
   have HG11 := Lib.hid (HG10.out.on b)
   have S11 := Lib.hid (S10.out.below b)
   have U11 := Lib.hid rb
   obtain ⟨a14, n14, k14, rfl⟩ := rb.shape
   have HM2 := Lib.hid (And.intro (show InP2 n (s, B * z % n) from ⟨HI2.out.1, Nat.mod_lt _ h0⟩) HM.out)
   clear b HG10 HF11 S10 V10 rb c1 c2 hsl
   have HU := Lib.hid (S11.out.setRow (C' := #[.slice a11 n11 k11, .slice a14 n14 k14]) HG11.out.out (by decide))
   have HV := Lib.hid (U11.out.setRow (C' := #[.slice a11 n11 k11, .slice a14 n14 k14]) HG11.out.out (by decide))
   have HE := Lib.hid (HG11.out.put (show w.heap.size ≤ w.heap.size + 1 by omega) #[.slice a11 n11 k11, .slice a14 n14 k14])
   go_wp2_with (first | refine store_7 rfl (.tmp 4) (.tmp 73) rfl (w.heap.size + 1) _ #[.slice a11 n11 k11, .slice a14 n14 k14] rfl rfl HG11.out.out rfl rfl (by simp [Value.oneCell']) ?_)
   exact bodyPost_ret (results_cell_row Tryz.results87 _ _ (w.heap.size + 1) _ _ _ _ rfl HE.out.out Tryz.underlying59 rfl Tryz.info7) rfl ⟨_, _, rfl, ⟨_, _, rfl, HU.out, HV.out⟩, HM2.out.1, HM2.out.2, HE.out.b⟩
theorem valP_out {x : Pt} {p : ByteArray} (h : psqB x p = true) : pprimeB p = true ∧ pairB x p = true ∧ 0 ≤ symN (normP (gV p) (valP x)) (gV p) := by
 unfold psqB sqN at h
 simpa using h
def PRootPost (x : Pt) (p : ByteArray) (w : World) (e : Ending) (w' : World) : Prop := e = .returned (.tuple #[.agg (aggT (prootG x p)), .bool (psqB x p)]) ∧ Below w.heap.size w w'
theorem pairRoot_any (x : Pt) (p : ByteArray) (w : World) : Calls Tryz.prog 49 #[.agg (aggT x), .string p] w (PRootPost x p w) := by
 have HQ := Lib.hid (pairSquare_any x p)
 have HG0 := Lib.hid (begun2 (Held.none w) (aggT x) #[.string ⟨#[]⟩, .string ⟨#[]⟩] 25 25)
 have HX0 := Lib.hid (show _ = some (Obj.cells (aggT x) 25 (0, 0)) from HG0.out.h _ (.head _))
 unfold PRootPost
 cases hq : psqB x p with
 | false =>
  rw [hq] at HQ
  rw [show prootG x p = noP from by unfold prootG; rw [hq]; rfl]
  clear hq
  go_enter Tryz.func49, Tryz.ntmps49
  go_wp2_with (first | refine load_p rfl (.tmp 2) rfl w.heap.size x rfl HX0.out ?_)
  generalize (w.alloc _).alloc _ = w0 at *
  refine (HQ.out _).mono ?_
  rintro e w1 ⟨rfl, b1⟩
  have HG1 := Lib.hid (HG0.out.on b1)
  have HE := Lib.hid (HG1.out.put (show w.heap.size ≤ w.heap.size + 1 by omega) (aggT noP))
  clear b1 HG0 HX0
  go_wp2_with (first | refine store_p rfl (.tmp 4) (.tmp 11) rfl (w.heap.size + 1) _ noP rfl rfl HG1.out.out rfl ?_)
  exact bodyPost_ret (resP HE.out.out rfl Tryz.results49 _ rfl) rfl ⟨rfl, HE.out.b⟩
 | true =>
  rw [hq] at HQ
  obtain ⟨hpr, hx, hsy⟩ := valP_out hq
  obtain ⟨_, pp, h4⟩ := pprime_parts hpr
  obtain ⟨⟨sx1, sx2⟩, ix⟩ := in_pair hx
  obtain ⟨okp, h1⟩ := modB_parts (pairB_parts hx).1
  have sp := okG_size okp
  have hn := gV_lt okp
  have hm := (pairB_parts hx).1
  have I1 := Lib.hid (fun w => in7_x x w sx1 sx2)
  have I2 := Lib.hid (fun w => in_x p w (by omega))
  have HR : Hid (∀ (w : World) (vx vp : Value), PairX w vx (valP x) → RowX w vp (gV p) → Calls Tryz.prog 87 #[vx, vp] w (Root8 (valP x) (gV p) w)) := fun w vx vp a b => l08_x a b pp h4 ix hn hsy
  unfold Root8 at HR
  have HRT : Hid (∀ y : Pn, InP2 (gV p) y → mulP (gV p) y y = valP x → prootG x p = (if gtP (gV p) y then negPG (txtP y) p else txtP y)) := fun y a b => proot_of hq a b
  have HGT : Hid (∀ y : Pn, InP2 (gV p) y → pgtB (txtP y) p = gtP (gV p) y) := fun y a => pgt_txt hm a
  have HSM : Hid (∀ y : Pn, InP2 (gV p) y → y.1 < SM ∧ y.2 < SM) := fun y a => ⟨sm_one (Nat.lt_trans a.1 hn), sm_one (Nat.lt_trans a.2 hn)⟩
  have HPG := Lib.hid (fun y => pairGreater_any y p)
  have HNG := Lib.hid (fun y => negPair_any y p)
  generalize valP x = X at *
  generalize gV p = n at *
  generalize prootG x p = R at *
  clear hq hpr hx hsy pp h4 sx1 sx2 ix okp h1 sp hn hm
  go_enter Tryz.func49, Tryz.ntmps49
  go_wp2_with (first | refine load_p rfl (.tmp 2) rfl w.heap.size x rfl HX0.out ?_)
  generalize (w.alloc _).alloc _ = w0 at *
  refine (HQ.out _).mono ?_
  rintro e w1 ⟨rfl, b1⟩
  have HG1 := Lib.hid (HG0.out.on b1)
  have HX1 := Lib.hid (stays b1 HX0.out)
  clear b1 HG0 HX0 HQ
  go_wp2_with (first | refine load_p rfl (.tmp 2) rfl w.heap.size x rfl HX1.out ?_)
  refine (I1.out _).mono ?_
  rintro e w2 ⟨vx, rfl, hvx, b2⟩
  have HG2 := Lib.hid (HG1.out.on b2)
  have HV2 := Lib.hid hvx
  obtain ⟨ax, bx, rfl, _, _⟩ := hvx
  clear b2 HG1 HX1 I1
  go_wp2_with fail
  refine (I2.out _).mono ?_
  rintro e w3 ⟨vp, rfl, hvp, b3⟩
  have HG3 := Lib.hid (HG2.out.on b3)
  have L1 := Lib.hid (HR.out w3 _ vp (HV2.out.below b3) hvp)
  obtain ⟨a5, n5, c5, rfl⟩ := hvp.shape
  clear b3 HG2 HV2 I2 HR hvp
  go_wp2_with fail
  refine L1.out.mono ?_
  rintro e w4 ⟨v, Y, rfl, hv, hin, hmm, b4⟩
  have HG4 := Lib.hid (HG3.out.on b4)
  have EQ := Lib.hid (HRT.out Y hin hmm)
  have EG := Lib.hid (HGT.out Y hin)
  have O1 := Lib.hid (out7_x hv (HSM.out Y hin).1 (HSM.out Y hin).2)
  obtain ⟨ay, by_, rfl, _, _⟩ := hv
  clear b4 HG3 L1 HRT HGT HSM hin hmm
  go_wp2_with fail
  refine O1.out.mono ?_
  rintro e w5 ⟨rfl, b5⟩
  have HG5 := Lib.hid ((HG4.out.on b5).bare)
  have hge := HG5.out.b.size
  have HW5 := Lib.hid (HG5.out.new #[.string ⟨#[]⟩, .string ⟨#[]⟩] 25)
  have HN5 := Lib.hid (HW5.out.h _ (.head _))
  have HG6 := Lib.hid (HW5.out.putAt hge (fun q h => by cases h) (aggT (txtP Y)))
  have HX6 := Lib.hid (show _ = some (Obj.cells (aggT (txtP Y)) 25 (0, 0)) from HG6.out.h _ (.head _))
  clear b5 HG4 O1 HG5 HW5
  have HPY := Lib.hid (HPG.out (txtP Y))
  have HNY := Lib.hid (HNG.out (txtP Y))
  rw [EG.out] at HPY
  clear HPG HNG EG
  generalize gtP n Y = gg at *
  generalize txtP Y = T at *
  generalize negPG T p = N at *
  go_wp2_with (first | refine store_p rfl (.tmp 6) (.tmp 17) rfl w5.heap.size _ T rfl rfl HN5.out rfl ?_ | refine load_p rfl (.tmp 6) rfl w5.heap.size T rfl HX6.out ?_)
  generalize (w5.alloc _).setRow _ _ = w6 at *
  clear HN5
  generalize w5.heap.size = g5 at *
  cases gg with
  | true =>
   obtain rfl : R = N := EQ.out.trans (if_pos rfl)
   refine (HPY.out _).mono ?_
   rintro e w7 ⟨rfl, b7⟩
   have HG7 := Lib.hid (HG6.out.on b7)
   have HX7 := Lib.hid (show _ = some (Obj.cells (aggT T) 25 (0, 0)) from HG7.out.h _ (.head _))
   clear b7 HG6 HX6 HPY
   go_wp2_with (first | refine load_p rfl (.tmp 6) rfl g5 T rfl HX7.out ?_)
   refine (HNY.out _).mono ?_
   rintro e w8 ⟨rfl, b8⟩
   have HG8 := Lib.hid (HG7.out.on b8)
   have HX8 := Lib.hid (show _ = some (Obj.cells (aggT T) 25 (0, 0)) from HG8.out.h _ (.head _))
   have HG9 := Lib.hid (HG8.out.putAt hge (fun q h => by cases h) (aggT R))
   have HX9 := Lib.hid (show _ = some (Obj.cells (aggT R) 25 (0, 0)) from HG9.out.h _ (.head _))
   have HE := Lib.hid (HG9.out.put (show w.heap.size ≤ w.heap.size + 1 by omega) (aggT R))
   clear b8 HG7 HX7 HNY
   go_wp2_with (first | refine store_p rfl (.tmp 6) (.tmp 23) rfl g5 _ R rfl rfl HX8.out rfl ?_ | refine load_p rfl (.tmp 6) rfl g5 R rfl HX9.out ?_ | refine store_p rfl (.tmp 4) (.tmp 24) rfl (w.heap.size + 1) _ R rfl rfl HG9.out.out rfl ?_)
   exact bodyPost_ret (resP HE.out.out rfl Tryz.results49 _ rfl) rfl ⟨rfl, HE.out.b⟩
  | false =>
   obtain rfl : R = T := EQ.out.trans (if_neg (by decide))
   refine (HPY.out _).mono ?_
   rintro e w7 ⟨rfl, b7⟩
   have HG7 := Lib.hid (HG6.out.on b7)
   have HX7 := Lib.hid (show _ = some (Obj.cells (aggT R) 25 (0, 0)) from HG7.out.h _ (.head _))
   have HE := Lib.hid (HG7.out.put (show w.heap.size ≤ w.heap.size + 1 by omega) (aggT R))
   clear b7 HG6 HX6 HPY
   go_wp2_with (first | refine load_p rfl (.tmp 6) rfl g5 R rfl HX7.out ?_ | refine store_p rfl (.tmp 4) (.tmp 24) rfl (w.heap.size + 1) _ R rfl rfl HG7.out.out rfl ?_)
   exact bodyPost_ret (resP HE.out.out rfl Tryz.results49 _ rfl) rfl ⟨rfl, HE.out.b⟩
end Go.Proofs.YtdajgcgliidjbaaGreat

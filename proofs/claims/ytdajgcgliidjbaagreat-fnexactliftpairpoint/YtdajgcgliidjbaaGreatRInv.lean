import Derived.Test.YtdajgcgliidjbaaGreatRRow
import Derived.Deep.LoopGhost
set_option maxRecDepth 8000
set_option maxHeartbeats 4000000
namespace Go.Proofs.YtdajgcgliidjbaaGreat
open Go.RowKit
structure InvRel (a n r s x y : Nat) : Prop where
 g : Nat.gcd r s = Nat.gcd n a
 xa : x * a % n = r % n
 ya : y * a % n = s % n
 xn : x < n
 yn : y < n
 rn : r ≤ n
 sn : s < n
theorem InvRel.start {a n : Nat} (ha : a < n) (hn : 1 < n) : InvRel a n n a 0 1 := ⟨rfl, by simp, by rw [Nat.one_mul], by omega, hn, Nat.le_refl _, ha⟩
theorem sub_mod_eq {x q y a n r s : Nat} (hn : 0 < n) (hx : x * a % n = r % n) (hy : y * a % n = s % n) (hle : q * s ≤ r) : (x + n - q % n * y % n) % n * a % n = (r - q * s) % n := by
 have hqy : q % n * y % n < n := Nat.mod_lt _ hn
 obtain ⟨t, ht⟩ : ∃ t, q % n * y % n = t := ⟨_, rfl⟩
 rw [ht] at hqy ⊢
 
 have h1 : t * a % n = q * s % n := by
  rw [← ht, Nat.mod_mul_mod, Nat.mul_assoc, Nat.mul_mod, Nat.mod_mod, hy, ← Nat.mul_mod]
 have h2 : ((x + n - t) * a + t * a) % n = r % n := by
  rw [← Nat.add_mul, show x + n - t + t = x + n from by omega, Nat.add_mul, Nat.add_mul_mod_self_left, hx]
 rw [Nat.mod_mul_mod]
 
 have h4 : ((x + n - t) * a % n + q * s % n) % n = r % n := by rw [← h1, ← Nat.add_mod, h2]
 have h5 : ((r - q * s) % n + q * s % n) % n = r % n := by rw [← Nat.add_mod, Nat.sub_add_cancel hle]
 have h3 := h4.trans h5.symm
 have c : ∀ u v m : Nat, u < n → v < n → (u + m) % n = (v + m) % n → u = v := by
  intro u v m hu hv e
  have e1 := Nat.div_add_mod (u + m) n
  have e2 := Nat.div_add_mod (v + m) n
  rw [e] at e1
  rcases Nat.lt_trichotomy ((u + m) / n) ((v + m) / n) with h | h | h
  ·have : n * ((u + m) / n) + n ≤ n * ((v + m) / n) := by rw [← Nat.mul_succ]; exact Nat.mul_le_mul_left _ h
   omega
  ·rw [h] at e1; omega
  ·have : n * ((v + m) / n) + n ≤ n * ((u + m) / n) := by rw [← Nat.mul_succ]; exact Nat.mul_le_mul_left _ h
   omega
 exact c _ _ _ (Nat.mod_lt _ hn) (Nat.mod_lt _ hn) h3
theorem InvRel.next {a n r s x y : Nat} (h : InvRel a n r s x y) (hn : 1 < n) (hs : 0 < s) : InvRel a n s (r % s) y ((x + n - r / s % n * y % n) % n) := by
 refine ⟨by rw [← h.g, Nat.gcd_comm s, ← Nat.gcd_rec, Nat.gcd_comm], h.ya, ?_, h.yn, Nat.mod_lt _ (by omega), Nat.le_of_lt h.sn, Nat.lt_trans (Nat.mod_lt _ hs) h.sn⟩
 have e : r % s = r - r / s * s := by have := Nat.div_add_mod r s; rw [Nat.mul_comm] at this; omega
 rw [e]
 exact sub_mod_eq (by omega) h.xa h.ya (Nat.div_mul_le_self r s)
def InvPost (a n : Nat) (w : World) (e : Ending) (w' : World) : Prop :=
 ∃ v x, e = .returned (.tuple #[v, .bool (decide (Nat.gcd n a = 1))]) ∧ RowX w' v x ∧ x < n ∧ x * a % n = Nat.gcd n a % n ∧ Below w.heap.size w w'
theorem linv_x {w : World} {u p : Value} {a n : Nat} (h : RowX w u a) (r : RowX w p n) (ha : a < n) (hn : n < GB) (h1 : 1 < n) : Calls Tryz.prog 129 #[u, p] w (InvPost a n w) := by
 have HP := Lib.hid r
 have HU := Lib.hid h
 obtain ⟨au, nu, cu, rfl⟩ := h.shape
 obtain ⟨ap, np, cp, rfl⟩ := r.shape
 clear h r
 go_enter Tryz.func129, Tryz.ntmps129
 go_wp2
 have X0 := row_none w
 have hb0 : Below w.heap.size w (w.alloc (.cells #[] 3)) := (Below.refl _ _).alloc (Nat.le_refl _) _
 have hb1 : Below (w.alloc (.cells #[] 3)).heap.size (w.alloc (.cells #[] 3)) ((w.alloc (.cells #[] 3)).alloc (.cells #[.int .i64 ((1 : Nat) : Int)] 3)) := (Below.refl _ _).alloc (Nat.le_refl _) _
 have Y0 := row_one (w.alloc (.cells #[] 3)) 1 (by omega) (by omega)
 have X1 := Lib.hid (X0.below hb1)
 have Y1 := Lib.hid Y0
 have HB0 := Lib.hid (bt hb0 hb1)
 have P1 := Lib.hid (HP.out.below HB0.out)
 have U1 := Lib.hid (HU.out.below HB0.out)
 rw [World.size_alloc] at Y1
 clear X0 Y0 hb0 hb1
 go_loopg [6, 7, 8, 9] a (fun gh rv sv xv yv wr => ∃ (r s x y : Nat), s = gh ∧ Hid (RowX wr rv r) ∧ Hid (RowX wr sv s) ∧ Hid (RowX wr xv x) ∧ Hid (RowX wr yv y) ∧ Hid (InvRel a n r s x y) ∧ Hid (Below w.heap.size w wr))
 case atStart => exact ⟨n, a, 0, 1, rfl, P1, U1, X1, Y1, InvRel.start ha h1, HB0⟩
 case round =>
  clear X1 Y1 P1 U1 HB0
  obtain ⟨r, s, x, y, rfl, hr, hs, hx, hy, hI, hB⟩ := hrel
  obtain ⟨as', ns, cs, rfl, hsz, _⟩ := hs.out.form
  by_cases hs0 : s = 0
  ·subst hs0
   have hns : ns = 0 := hsz.2 rfl
   subst hns
   have hg : r = Nat.gcd n a := by rw [← hI.out.g, Nat.gcd_zero_right]
   obtain ⟨ax, nx, cx, rfl⟩ := hx.out.shape
   obtain ⟨ar, nr, cr, rfl, _, hc, hn1, _⟩ := hr.out.form
   have R : ∀ b k, b = decide (r = 1) → Hid (InvPost a n w (.returned (.tuple #[.slice ax nx cx, .bool b])) (wr.drewN k)) := fun b k hb => ⟨_, x, by rw [hb, hg], hx.out.below (bd (Below.refl _ _) k), hI.out.xn, by rw [hI.out.xa, hg], bd hB.out k⟩
   by_cases h2 : nr = 1
   ·subst h2
    obtain ⟨g, c, rfl, hcell, hcv⟩ := hc (by omega)
    have hrb := (hn1.1 rfl)
    have hcr : c = r := by rw [hcv, Nat.mod_eq_of_lt hrb.2]
    by_cases hr1 : r = 1
    ·have hc1 : ((c : Int) == 1) = true := by rw [hcr, hr1]; rfl
     have R1 := fun k => R true k (by rw [decide_eq_true hr1])
     clear hr hs hx hy hI hB hg hsz hc hn1 hrb hcr hcv hr1 R
     go_wp2
     go_quiet (fail)
     have R2 := R1 nq
     clear R1
     generalize wr.drewN nq = w9 at *
     go_wp2
     go_ret2
     exact R2.out
    ·have hc1 : ((c : Int) == 1) = false := by
      have : ¬ ((c : Int) = 1) := by omega
      simpa using this
     have R1 := fun k => R false k (by rw [decide_eq_false hr1])
     clear hr hs hx hy hI hB hg hsz hc hn1 hrb hcr hcv hr1 R
     go_wp2
     go_quiet (fail)
     have R2 := R1 nq
     clear R1
     generalize wr.drewN nq = w9 at *
     go_wp2
     go_ret2
     exact R2.out
   ·have h2' : ((nr : Int) == 1) = false := by
     have : ¬ ((nr : Int) = 1) := by omega
     simpa using this
    have hr1 : r ≠ 1 := fun e => h2 (hn1.2 (by omega))
    have R1 := fun k => R false k (by rw [decide_eq_false hr1])
    clear hr hs hx hy hI hB hg hsz hc hn1 hr1 R h2
    go_wp2
    go_quiet (fail)
    have R2 := R1 nq
    clear R1
    generalize wr.drewN nq = w9 at *
    go_wp2
    go_ret2
    exact R2.out
  ·have hn0 : 0 < ns := by
    rcases Nat.eq_zero_or_pos ns with e | e
    ·exact absurd (hsz.1 e) hs0
    ·exact e
   have hn0' : (0 : Int) < (ns : Int) := by omega
   have hrS : r < SM := sm_one (Nat.lt_of_le_of_lt hI.out.rn hn)
   have D1 := Lib.hid (div_x hr.out hs.out hrS (by omega))
   obtain ⟨ar, nr, cr, rfl⟩ := hr.out.shape
   clear hsz
   go_wp2_with fail
   refine D1.out.mono ?_
   rintro e w1 ⟨q, t, rfl, hq, ht, b1⟩
   have HQ := Lib.hid hq
   have HT := Lib.hid ht
   obtain ⟨aq, nq, cq, rfl⟩ := hq.shape
   obtain ⟨at0, nt, ct, rfl⟩ := ht.shape
   have hB1 := bt hB.out b1
   have D2 := Lib.hid (div_x hq (HP.out.below hB1) (Nat.lt_of_le_of_lt (Nat.div_le_self _ _) hrS) (by omega))
   have X1 := Lib.hid (hx.out.below b1)
   have Y1 := Lib.hid (hy.out.below b1)
   have S1 := Lib.hid (hs.out.below b1)
   have HB1 := Lib.hid hB1
   obtain ⟨ax, nx, cx, rfl⟩ := hx.out.shape
   obtain ⟨ay, ny, cy, rfl⟩ := hy.out.shape
   have HN := Lib.hid (hI.out.next h1 (by omega))
   have hyn := hI.out.yn
   have hxn := hI.out.xn
   clear hq ht b1 hB1 D1 hr hs hx hy hB HQ
   go_wp2_with fail
   refine D2.out.mono ?_
   rintro e w2 ⟨q1, q2, rfl, _, hq2, b2⟩
   have hB2 := bt HB1.out b2
   have hqn : r / s % n < n := Nat.mod_lt _ (by omega)
   have M1 := Lib.hid (lmul_x hq2 (Y1.out.below b2) (HP.out.below hB2) (by omega) (by omega) (by omega))
   obtain ⟨aq2, nq2, cq2, rfl⟩ := hq2.shape
   have X2 := Lib.hid (X1.out.below b2)
   have Y2 := Lib.hid (Y1.out.below b2)
   have S2 := Lib.hid (S1.out.below b2)
   have T2 := Lib.hid (HT.out.below b2)
   have HB2 := Lib.hid hB2
   clear hq2 b2 hB2 D2 X1 Y1 S1 HT HB1
   go_wp2_with fail
   refine M1.out.mono ?_
   rintro e w3 ⟨m, rfl, hm, b3⟩
   have hB3 := bt HB2.out b3
   have hmn : r / s % n * y % n < n := Nat.mod_lt _ (by omega)
   have U1 := Lib.hid (lsub_x (X2.out.below b3) hm (HP.out.below hB3) hxn hmn hn)
   obtain ⟨am, nm, cm, rfl⟩ := hm.shape
   have Y3 := Lib.hid (Y2.out.below b3)
   have S3 := Lib.hid (S2.out.below b3)
   have T3 := Lib.hid (T2.out.below b3)
   have HB3 := Lib.hid hB3
   clear hm b3 hB3 M1 X2 Y2 S2 T2 HB2
   go_wp2_with fail
   refine U1.out.mono ?_
   rintro e w4 ⟨z, rfl, hz, b4⟩
   have HZ := Lib.hid hz
   obtain ⟨az, nz, cz, rfl⟩ := hz.shape
   have Y4 := Lib.hid (Y3.out.below b4)
   have S4 := Lib.hid (S3.out.below b4)
   have T4 := Lib.hid (T3.out.below b4)
   have HB4 := Lib.hid (bt HB3.out b4)
   have hlt : r % s < s := Nat.mod_lt _ (by omega)
   clear hz b4 U1 Y3 S3 T3 HB3
   go_wp2
   go_roundg (r % s)
   case measure => exact hlt
   case rel => exact ⟨s, r % s, y, _, rfl, S4, T4, Y4, HZ, HN, HB4⟩
theorem lhalf_x {w : World} {u p : Value} {x n : Nat} (h : RowX w u x) (r : RowX w p n) (hx : x < n) (hn : n < GB) : Calls Tryz.prog 136 #[u, p] w (RowTo (if x % 2 = 1 then (x + n) / 2 else x / 2) w) := by
 have HP := Lib.hid r
 have HU := Lib.hid h
 have hx1 : x < SM := sm_one (by omega)
 have hn1 : n < SM := sm_one hn
 have hsm : x + n < SM := sm_add (by omega) hn
 obtain ⟨ap, np, cp, rfl⟩ := r.shape
 obtain ⟨au, nu, cu, rfl, hz, hc, _, hl⟩ := h.form
 have hnu := hl hx1
 clear h r hl
 by_cases ho : x % 2 = 1
 ·rw [if_pos ho]
  have hn0 : 0 < nu := by
   rcases Nat.eq_zero_or_pos nu with e | e
   ·have := hz.1 e; omega
   ·exact e
  have hn0' : (0 : Int) < (nu : Int) := by omega
  obtain ⟨g, c, rfl, hcell, hcv⟩ := hc hn0
  have hodd : (c : Int) % 2 = 1 := by omega
  have A1 := Lib.hid (add_x HU.out HP.out hx1 hn1)
  clear hz hc hcv ho
  go_enter Tryz.func136, Tryz.ntmps136
  go_wp2_with fail
  refine A1.out.mono ?_
  rintro e w1 ⟨s, rfl, hs, b1⟩
  have D1 := Lib.hid (div_x (hs.below ((Below.refl _ _).alloc (Nat.le_refl _) _)) (row_one w1 2 (by omega) (by omega)) hsm (by omega))
  obtain ⟨as', ns, cs, rfl⟩ := hs.shape
  have B1 := Lib.hid b1
  clear hs A1 b1
  go_wp2_with fail
  refine D1.out.mono ?_
  rintro e w2 ⟨q, t, rfl, hq, _, b2⟩
  have R : Hid (RowTo ((x + n) / 2) w (.returned q) w2) := ⟨q, rfl, hq, bt (bt B1.out ((Below.refl _ _).alloc (Nat.le_refl _) _)) b2⟩
  clear hq b2 D1 B1
  go_wp2
  go_ret
  exact R.out
 ·rw [if_neg ho]
  have D1 := Lib.hid (div_x (HU.out.below ((Below.refl _ _).alloc (Nat.le_refl _) _)) (row_one w 2 (by omega) (by omega)) hx1 (by omega))
  by_cases hn0 : nu = 0
  ·subst hn0
   clear hz hc ho
   go_enter Tryz.func136, Tryz.ntmps136
   go_wp2_with fail
   refine D1.out.mono ?_
   rintro e w2 ⟨q, t, rfl, hq, _, b2⟩
   have R : Hid (RowTo (x / 2) w (.returned q) w2) := ⟨q, rfl, hq, bt ((Below.refl _ _).alloc (Nat.le_refl _) _) b2⟩
   clear hq b2 D1
   go_wp2
   go_ret
   exact R.out
  ·have hn0' : (0 : Int) < (nu : Int) := by omega
   obtain ⟨g, c, rfl, hcell, hcv⟩ := hc (by omega)
   have hev : ((c : Int) % 2 == 1) = false := by
    have : ¬ ((c : Int) % 2 = 1) := by omega
    simpa using this
   clear hz hc hcv ho hn0
   go_enter Tryz.func136, Tryz.ntmps136
   go_wp2_with fail
   refine D1.out.mono ?_
   rintro e w2 ⟨q, t, rfl, hq, _, b2⟩
   have R : Hid (RowTo (x / 2) w (.returned q) w2) := ⟨q, rfl, hq, bt ((Below.refl _ _).alloc (Nat.le_refl _) _) b2⟩
   clear hq b2 D1
   go_wp2
   go_ret
   exact R.out
end Go.Proofs.YtdajgcgliidjbaaGreat

import Derived.Test.YtdajgcgliidjbaaGreatZPLaw
import Derived.Test.YtdajgcgliidjbaaGreatVRoot
import Derived.Test.YtdajgcgliidjbaaGreatUInvs
namespace Go.Proofs.YtdajgcgliidjbaaGreat
open Go.RowKit
def slopeQ (p : ByteArray) (x1 y1 x2 y2 : Pt) : Pt := if x1 = x2 ∧ y1 = y2 then mulPG (addPG (addPG (mulPG x1 x1 p) (mulPG x1 x1 p) p) (mulPG x1 x1 p) p) (invPG (addPG y1 y1 p) p) p else mulPG (subPG y2 y1 p) (invPG (subPG x2 x1 p) p) p
def lineQ (p : ByteArray) (s x1 y1 x2 : Pt) : Tq := (false, subPG (subPG (mulPG s s p) x1 p) x2 p, subPG (mulPG s (subPG x1 (subPG (subPG (mulPG s s p) x1 p) x2 p) p) p) y1 p)
def plusQ (p : ByteArray) (a b : Tq) : Tq := if a.1 then b else if b.1 then a else if a.2.1 = b.2.1 ∧ a.2.2 = negPG b.2.2 p then zeroQ else lineQ p (slopeQ p a.2.1 a.2.2 b.2.1 b.2.2) a.2.1 a.2.2 b.2.1
theorem subm_none {n x y : Nat} (hx : x < n) (hy : y < n) : (x + n - y) % n = 0 ↔ x = y := by
 constructor
 ·intro h1
  rcases Nat.lt_or_ge x y with k | k
  ·rw [Nat.mod_eq_of_lt (by omega)] at h1; omega
  ·rw [show x + n - y = x - y + n by omega, Nat.add_mod_right, Nat.mod_eq_of_lt (by omega)] at h1; omega
 ·rintro rfl
  rw [show x + n - x = n by omega, Nat.mod_self]
theorem subP_none {n : Nat} {x y : Pn} (hx : InP2 n x) (hy : InP2 n y) : subP n x y = (0, 0) ↔ x = y := by
 constructor
 ·intro h
  exact Prod.ext ((subm_none hx.1 hy.1).1 (congrArg Prod.fst h)) ((subm_none hx.2 hy.2).1 (congrArg Prod.snd h))
 ·rintro rfl
  exact Prod.ext ((subm_none hx.1 hx.1).2 rfl) ((subm_none hx.2 hx.2).2 rfl)
theorem invP_txt {X : Pn} {p : ByteArray} (hm : modB p = true) (hX : InP2 (gV p) X) : invPG (txtP X) p = txtP (inv7 X (gV p)) := by
 have e := (inv7_txt (pair_txt hm hX)).1
 rwa [val_txt] at e
theorem txtP_inj {X Y : Pn} (h : txtP X = txtP Y) : X = Y := by
 have e := congrArg valP h
 rwa [val_txt, val_txt] at e
theorem lineQ_txt {p : ByteArray} {A B : Pn × Pn} {u d : Pn} (hm : modB p = true) (h1 : InP2 (gV p) A.1) (h2 : InP2 (gV p) A.2) (h3 : InP2 (gV p) B.1) :
  lineQ p (txtP (mulP (gV p) u (inv7 d (gV p)))) (txtP A.1) (txtP A.2) (txtP B.1) = txt4 (some (lineP (gV p) A B u d)) := by
 have h0 := mod_pos hm
 unfold lineQ
 have is := mulP_in h0 u (inv7 d (gV p))
 rw [mul_txt hm is is, sub_txt hm (mulP_in h0 _ _) h1, sub_txt hm (subP_in h0 _ _) h3, sub_txt hm h1 (subP_in h0 _ _), mul_txt hm is (subP_in h0 _ _), sub_txt hm (mulP_in h0 _ _) h2]
 rfl
theorem plusQ_txt {id : Int} {a b : Tq} (ha : pairPtB id a = true) (hb : pairPtB id b = true) : plusQ (cvPT id) a b = txt4 (plusP (gV (cvPT id)) (val4 a) (val4 b)) := by
 have FA := pair_fit ha
 have FB := pair_fit hb
 have hm := (curve_fit FA.cv).mp
 have CS := curve_sums FA.cv
 have hp := CS.prm
 have h4 := CS.m4
 have h0 := mod_pos hm
 have S := CS.pair
 obtain ⟨z1, x1, y1⟩ := a
 obtain ⟨z2, x2, y2⟩ := b
 cases z1 with
 | true =>
  unfold plusQ
  rw [if_pos rfl]
  exact FB.back.symm
 | false =>
 cases z2 with
 | true =>
  unfold plusQ
  rw [if_neg Bool.false_ne_true, if_pos rfl]
  have e : plusP (gV (cvPT id)) (val4 (false, x1, y1)) (val4 (true, x2, y2)) = val4 (false, x1, y1) := rfl
  rw [e]
  exact FA.back.symm
 | false =>
 have pa := ha
 have pb := hb
 simp only [pairPtB, Bool.and_eq_true, Bool.false_eq_true, if_false] at pa pb
 obtain ⟨i1, e1⟩ := pair_num pa.2.1
 obtain ⟨j1, f1⟩ := pair_num pa.2.2.1
 obtain ⟨i2, e2⟩ := pair_num pb.2.1
 obtain ⟨j2, f2⟩ := pair_num pb.2.2.1
 have ev : plusP (gV (cvPT id)) (val4 (false, x1, y1)) (val4 (false, x2, y2)) = plusP (gV (cvPT id)) (some (valP x1, valP y1)) (some (valP x2, valP y2)) := rfl
 rw [ev]
 have oA : onP (gV (cvPT id)) (valP (cvKT id)) (some (valP x1, valP y1)) := FA.on
 have oB : onP (gV (cvPT id)) (valP (cvKT id)) (some (valP x2, valP y2)) := FB.on
 clear ev ha hb FA FB pa pb
 generalize valP x1 = X1 at *
 generalize valP y1 = Y1 at *
 generalize valP x2 = X2 at *
 generalize valP y2 = Y2 at *
 subst e1 f1 e2 f2
 unfold plusQ
 rw [if_neg Bool.false_ne_true, if_neg Bool.false_ne_true]
 have ev : plusP (gV (cvPT id)) (some (X1, Y1)) (some (X2, Y2)) = if subP (gV (cvPT id)) X2 X1 = (0, 0) then (if Y1 = (0, 0) ∨ subP (gV (cvPT id)) Y2 Y1 ≠ (0, 0) then none else some (lineP (gV (cvPT id)) (X1, Y1) (X2, Y2) (tripleP (gV (cvPT id)) X1) (addP (gV (cvPT id)) Y1 Y1))) else some (lineP (gV (cvPT id)) (X1, Y1) (X2, Y2) (subP (gV (cvPT id)) Y2 Y1) (subP (gV (cvPT id)) X2 X1)) := rfl
 simp only
 by_cases ex : X1 = X2
 ·subst ex
  by_cases ey : Y1 = negP (gV (cvPT id)) Y2
  ·rw [if_pos ⟨rfl, by rw [neg_txt hm j2, ey]⟩]
   have k : plusP (gV (cvPT id)) (some (X1, Y2)) (some (X1, Y1)) = none := by
    rw [ey]
    exact S.against oB
   rw [S.comm oA oB, k]
   rfl
  ·rw [if_neg (fun e => ey (by have := e.2; rw [neg_txt hm j2] at this; exact txtP_inj this))]
   have sq : mulP (gV (cvPT id)) Y1 Y1 = mulP (gV (cvPT id)) Y2 Y2 := oA.2.2.trans oB.2.2.symm
   have e3 : Y1 = Y2 := (pair_two_roots hp h4 j1 j2 sq).resolve_right ey
   subst e3
   rw [ev, if_pos ((subP_none i1 i1).2 rfl), if_neg (by
    rintro (e | e)
    ·exact S.odd oA e
    ·exact e ((subP_none j1 j1).2 rfl))]
   have hs : slopeQ (cvPT id) (txtP X1) (txtP Y1) (txtP X1) (txtP Y1) = txtP (mulP (gV (cvPT id)) (tripleP (gV (cvPT id)) X1) (inv7 (addP (gV (cvPT id)) Y1 Y1) (gV (cvPT id)))) := by
    unfold slopeQ tripleP
    rw [if_pos ⟨rfl, rfl⟩, mul_txt hm i1 i1, add_txt hm (mulP_in h0 _ _) (mulP_in h0 _ _), add_txt hm (addP_in h0 _ _) (mulP_in h0 _ _), add_txt hm j1 j1, invP_txt hm (addP_in h0 _ _), mul_txt hm (addP_in h0 _ _) (inv7_in h0)]
   rw [hs]
   exact lineQ_txt (A := (X1, Y1)) (B := (X1, Y1)) hm i1 j1 i1
 ·rw [if_neg (fun e => ex (txtP_inj e.1)), ev, if_neg (fun e => ex ((subP_none i2 i1).1 e).symm)]
  have hs : slopeQ (cvPT id) (txtP X1) (txtP Y1) (txtP X2) (txtP Y2) = txtP (mulP (gV (cvPT id)) (subP (gV (cvPT id)) Y2 Y1) (inv7 (subP (gV (cvPT id)) X2 X1) (gV (cvPT id)))) := by
   unfold slopeQ
   rw [if_neg (fun e => ex (txtP_inj e.1)), sub_txt hm j2 j1, sub_txt hm i2 i1, invP_txt hm (subP_in h0 _ _), mul_txt hm (subP_in h0 _ _) (inv7_in h0)]
  rw [hs]
  exact lineQ_txt (A := (X1, Y1)) (B := (X2, Y2)) hm i1 j1 i2
theorem addQG_no {id : Int} {a b : Tq} (h : (pairPtB id a && pairPtB id b) = false) : addQG id a b = noQ := by unfold addQG; rw [h]; rfl
theorem addQG_is {id : Int} {a b : Tq} (ha : pairPtB id a = true) (hb : pairPtB id b = true) : addQG id a b = plusQ (cvPT id) a b := by
 rw [plusQ_txt ha hb]; unfold addQG; rw [ha, hb]; rfl
end Go.Proofs.YtdajgcgliidjbaaGreat

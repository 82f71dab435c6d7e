/-
  The sum of two right points, reckoned as impl does: the same point.
-/
import Derived.Test.YtkmmlfocidfghaaZLaw
namespace Go.Proofs.Ytkmmlfocidfghaa
open Go.RowKit

def slopeT (p x1 y1 x2 y2 : ByteArray) : ByteArray := if x1 = x2 ∧ y1 = y2 then mulR (addR (addR (mulR x1 x1 p) (mulR x1 x1 p) p) (mulR x1 x1 p) p) (invR (addR y1 y1 p) p) p else mulR (subR y2 y1 p) (invR (subR x2 x1 p) p) p
/-- The sum, as texts. -/
def plusT (p : ByteArray) (a b : Tp) : Tp := if a.1 then b else if b.1 then a else if a.2.1 = b.2.1 ∧ a.2.2 = negR b.2.2 p then zeroT else
  (false, subR (subR (mulR (slopeT p a.2.1 a.2.2 b.2.1 b.2.2) (slopeT p a.2.1 a.2.2 b.2.1 b.2.2) p) a.2.1 p) b.2.1 p,
   subR (mulR (slopeT p a.2.1 a.2.2 b.2.1 b.2.2) (subR a.2.1 (subR (subR (mulR (slopeT p a.2.1 a.2.2 b.2.1 b.2.2) (slopeT p a.2.1 a.2.2 b.2.1 b.2.2) p) a.2.1 p) b.2.1 p) p) p) a.2.2 p)
/-- A text that is the rest with this number. -/
structure Nm (p x : ByteArray) (X : Pn) : Prop where
  r : restB x p = true
  e : (gV x, 0) = X
theorem Nm.two {p x : ByteArray} {X : Pn} (h : Nm p x X) : X.2 = 0 := by rw [← h.e]
theorem Nm.lt {p x : ByteArray} {X : Pn} (h : Nm p x X) : gV x < gV p := (restB_lt h.r).1
theorem Nm.txt {p x : ByteArray} {X : Pn} (h : Nm p x X) : gS X.1 = x := by rw [← h.e]; exact gS_gV (restB_lt h.r).2.1
theorem sub_num {x y p : ByteArray} (hm : modB p = true) (hx : restB x p = true) (hy : restB y p = true) : subR x y p = gS ((gV x + gV p - gV y) % gV p) := by unfold subR; rw [two_of hm hx hy, if_pos rfl]
theorem Nm.of {p : ByteArray} {k : Nat} {X : Pn} (hm : modB p = true) (h : k < gV p) (e : (k, 0) = X) : Nm p (gS k) X := ⟨rest_of_lt hm h, by rw [gV_gS]; exact e⟩
theorem Nm.mul {p x y : ByteArray} {X Y : Pn} (hm : modB p = true) (hx : Nm p x X) (hy : Nm p y Y) : Nm p (mulR x y p) (mulP (gV p) X Y) := by
  have h0 := mod_pos hm
  rw [mul_num hm hx.r hy.r]
  exact .of hm (Nat.mod_lt _ h0) (by rw [← hx.e, ← hy.e, mul_bare h0])
theorem Nm.add {p x y : ByteArray} {X Y : Pn} (hm : modB p = true) (hx : Nm p x X) (hy : Nm p y Y) : Nm p (addR x y p) (addP (gV p) X Y) := by
  have h0 := mod_pos hm
  rw [add_num hm hx.r hy.r]
  refine .of hm (Nat.mod_lt _ h0) ?_
  rw [← hx.e, ← hy.e]
  show _ = ((gV x + gV y) % gV p, (0 + 0) % gV p)
  rw [Nat.zero_mod]
theorem Nm.sub {p x y : ByteArray} {X Y : Pn} (hm : modB p = true) (hx : Nm p x X) (hy : Nm p y Y) : Nm p (subR x y p) (subP (gV p) X Y) := by
  have h0 := mod_pos hm
  rw [sub_num hm hx.r hy.r]
  refine .of hm (Nat.mod_lt _ h0) ?_
  rw [← hx.e, ← hy.e]
  show _ = ((gV x + gV p - gV y) % gV p, (0 + gV p - 0) % gV p)
  rw [Nat.zero_add, Nat.sub_zero, Nat.mod_self]
theorem Nm.inv {p x : ByteArray} {X : Pn} (hm : modB p = true) (hp : Prm (gV p)) (h4 : gV p % 4 = 3) (hx : Nm p x X) (hne : X ≠ (0, 0)) : Nm p (invR x p) (inv7 X (gV p)) := by
  have h0 := mod_pos hm
  have hin : InP2 (gV p) X := by rw [← hx.e]; exact ⟨hx.lt, h0⟩
  have e := mul_inv7 hp h4 hin hne
  have b := inv_bare (n := gV p) hx.two
  have hj := inv7_in (x := X) (n := gV p) h0
  obtain ⟨Y, hY⟩ : ∃ Y, inv7 X (gV p) = Y := ⟨_, rfl⟩
  rw [hY] at e b hj ⊢
  obtain ⟨y, y2⟩ := Y
  simp only at b
  subst b
  rw [← hx.e, mul_bare h0] at e
  have e1 : gV x * y % gV p = 1 := congrArg Prod.fst e
  have e2 : y * gV x % gV p = 1 := by rw [Nat.mul_comm]; exact e1
  have hg : Nat.gcd (gV p) (gV x) = 1 := by
    refine hp.cop fun hd => ?_
    have := Nat.dvd_trans hd (Nat.dvd_mul_right (gV x) y)
    rw [Nat.mod_eq_zero_of_dvd this] at e1
    cases e1
  have hb : invB x p = true := by unfold invB oneB; rw [hm, hx.r, decide_eq_true hg]; rfl
  unfold invR
  rw [hb, if_pos rfl, invN_eq hj.1 e2]
  exact .of hm hj.1 rfl
/-- A sum by a line, as texts. -/
theorem line_txt {p x1 y1 x2 s : ByteArray} {A B : Pn × Pn} {u d : Pn} (hm : modB p = true) (h1 : Nm p x1 A.1) (h2 : Nm p y1 A.2) (h3 : Nm p x2 B.1) (hs : Nm p s (mulP (gV p) u (inv7 d (gV p)))) :
    (false, subR (subR (mulR s s p) x1 p) x2 p, subR (mulR s (subR x1 (subR (subR (mulR s s p) x1 p) x2 p) p) p) y1 p) = txt2 (some (lineP (gV p) A B u d)) := by
  have hx : Nm p (subR (subR (mulR s s p) x1 p) x2 p) (lineP (gV p) A B u d).1 := ((hs.mul hm hs).sub hm h1).sub hm h3
  have hy : Nm p (subR (mulR s (subR x1 (subR (subR (mulR s s p) x1 p) x2 p) p) p) y1 p) (lineP (gV p) A B u d).2 := (hs.mul hm (h1.sub hm hx)).sub hm h2
  show _ = (false, gS (lineP (gV p) A B u d).1.1, gS (lineP (gV p) A B u d).2.1)
  rw [hx.txt, hy.txt]
theorem nm_of {p x : ByteArray} (h : restB x p = true) : Nm p x (gV x, 0) := ⟨h, rfl⟩
theorem sub_same {n x y : Nat} (hx : x < n) (hy : y < n) : subP n (x, 0) (y, 0) = (0, 0) ↔ x = y := by
  have e : subP n (x, 0) (y, 0) = ((x + n - y) % n, 0) := by
    show ((x + n - y) % n, (0 + n - 0) % n) = _
    rw [Nat.zero_add, Nat.sub_zero, Nat.mod_self]
  rw [e]
  constructor
  · intro h
    have h1 : (x + n - y) % n = 0 := congrArg Prod.fst h
    rcases Nat.lt_or_ge x y with k | k
    · rw [Nat.mod_eq_of_lt (by omega)] at h1; omega
    · rw [show x + n - y = x - y + n by omega, Nat.add_mod_right, Nat.mod_eq_of_lt (by omega)] at h1; omega
  · rintro rfl
    rw [show x + n - x = n by omega, Nat.mod_self]
theorem plus_txt {id : Int} {a b : Tp} (ha : pointB id a = true) (hb : pointB id b = true) : plusT (cvPT id) a b = txt2 (plusP (gV (cvPT id)) (val2 a) (val2 b)) := by
  have FA := point_fit ha
  have FB := point_fit hb
  have hm := (curve_fit FA.cv).mp
  have CS := curve_sums FA.cv
  have hp := CS.prm
  have h4 := CS.m4
  have h0 := mod_pos hm
  obtain ⟨z1, x1, y1⟩ := a
  obtain ⟨z2, x2, y2⟩ := b
  cases z1 with
  | true =>
    unfold plusT
    rw [if_pos rfl]
    exact FB.back.symm
  | false =>
  cases z2 with
  | true =>
    unfold plusT
    rw [if_neg Bool.false_ne_true, if_pos rfl]
    have e : plusP (gV (cvPT id)) (val2 (false, x1, y1)) (val2 (true, x2, y2)) = val2 (false, x1, y1) := rfl
    rw [e]
    exact FA.back.symm
  | false =>
  have pa := ha
  have pb := hb
  simp only [pointB, Bool.and_eq_true, Bool.false_eq_true, if_false] at pa pb
  have rx1 := pa.2.1
  have ry1 := pa.2.2.1
  have rx2 := pb.2.1
  have ry2 := pb.2.2.1
  have lx1 := (restB_lt rx1).1
  have ly1 := (restB_lt ry1).1
  have lx2 := (restB_lt rx2).1
  have ly2 := (restB_lt ry2).1
  have oa : (gV y1, 0) ≠ (0, 0) := CS.base.odd FA.on
  have ny1 : gV y1 ≠ 0 := fun e => oa (by rw [e])
  have en : negR y2 (cvPT id) = gS ((0 + gV (cvPT id) - gV y2) % gV (cvPT id)) := by
    have e := negR_gS hm ly2
    rwa [gS_gV (restB_lt ry2).2.1] at e
  have ob : (gV y2, 0) ≠ (0, 0) := CS.base.odd FB.on
  have ny2 : gV y2 ≠ 0 := fun e => ob (by rw [e])
  rw [Nat.zero_add, Nat.mod_eq_of_lt (by omega)] at en
  unfold plusT
  rw [if_neg Bool.false_ne_true, if_neg Bool.false_ne_true]
  have ev : plusP (gV (cvPT id)) (val2 (false, x1, y1)) (val2 (false, x2, y2)) = if subP (gV (cvPT id)) (gV x2, 0) (gV x1, 0) = (0, 0) then (if ((gV y1, 0) : Pn) = (0, 0) ∨ subP (gV (cvPT id)) (gV y2, 0) (gV y1, 0) ≠ (0, 0) then none else some (lineP (gV (cvPT id)) ((gV x1, 0), (gV y1, 0)) ((gV x2, 0), (gV y2, 0)) (tripleP (gV (cvPT id)) (gV x1, 0)) (addP (gV (cvPT id)) (gV y1, 0) (gV y1, 0)))) else some (lineP (gV (cvPT id)) ((gV x1, 0), (gV y1, 0)) ((gV x2, 0), (gV y2, 0)) (subP (gV (cvPT id)) (gV y2, 0) (gV y1, 0)) (subP (gV (cvPT id)) (gV x2, 0) (gV x1, 0))) := rfl
  rw [ev]
  simp only
  by_cases ex : x1 = x2
  · subst ex
    rw [if_pos ((sub_same lx1 lx1).2 rfl)]
    by_cases ey : y1 = negR y2 (cvPT id)
    · rw [if_pos ⟨rfl, ey⟩]
      have k : gV y1 = gV (cvPT id) - gV y2 := by
        have := congrArg gV ey
        rwa [en, gV_gS] at this
      rw [if_pos (.inr (fun e => by
        have := (sub_same ly2 ly1).1 e
        omega))]
      rfl
    · rw [if_neg (fun e => ey e.2)]
      have sq : mulP (gV (cvPT id)) (gV y1, 0) (gV y1, 0) = mulP (gV (cvPT id)) (gV y2, 0) (gV y2, 0) := (of_decide_eq_true pa.2.2.2).trans (of_decide_eq_true pb.2.2.2).symm
      rw [mul_bare h0, mul_bare h0] at sq
      have e2 : gV y1 = gV y2 := by
        rcases hp.two_roots ly1 ly2 (congrArg Prod.fst sq) with e | e | e
        · exact e
        · exfalso
          apply ey
          rw [en, ← gS_gV (restB_lt ry1).2.1, show gV y1 = gV (cvPT id) - gV y2 by omega]
        · exact absurd e.1 ny1
      have e3 : y1 = y2 := by rw [← gS_gV (restB_lt ry1).2.1, ← gS_gV (restB_lt ry2).2.1, e2]
      subst e3
      rw [if_neg (by
        rintro (e | e)
        · exact oa e
        · exact e ((sub_same ly1 ly1).2 rfl))]
      have hs : Nm (cvPT id) (slopeT (cvPT id) x1 y1 x1 y1) (mulP (gV (cvPT id)) (tripleP (gV (cvPT id)) (gV x1, 0)) (inv7 (addP (gV (cvPT id)) (gV y1, 0) (gV y1, 0)) (gV (cvPT id)))) := by
        unfold slopeT
        rw [if_pos ⟨rfl, rfl⟩]
        have n1 := nm_of rx1
        have n2 := nm_of ry1
        have sqx := n1.mul hm n1
        refine (((sqx.add hm sqx).add hm sqx).mul hm ((n2.add hm n2).inv hm hp h4 ?_))
        intro e
        have e' : (gV y1 + gV y1) % gV (cvPT id) = 0 := congrArg Prod.fst e
        rcases Nat.lt_or_ge (gV y1 + gV y1) (gV (cvPT id)) with k | k
        · rw [Nat.mod_eq_of_lt k] at e'; omega
        · rw [show gV y1 + gV y1 = (gV y1 + gV y1 - gV (cvPT id)) + gV (cvPT id) by omega, Nat.add_mod_right, Nat.mod_eq_of_lt (by omega)] at e'; omega
      exact line_txt (A := ((gV x1, 0), (gV y1, 0))) (B := ((gV x1, 0), (gV y1, 0))) hm (nm_of rx1) (nm_of ry1) (nm_of rx1) hs
  · have ne : gV x1 ≠ gV x2 := fun e => ex (by rw [← gS_gV (restB_lt rx1).2.1, ← gS_gV (restB_lt rx2).2.1, e])
    rw [if_neg (fun e => ex e.1), if_neg (fun e => ne ((sub_same lx2 lx1).1 e).symm)]
    have hs : Nm (cvPT id) (slopeT (cvPT id) x1 y1 x2 y2) (mulP (gV (cvPT id)) (subP (gV (cvPT id)) (gV y2, 0) (gV y1, 0)) (inv7 (subP (gV (cvPT id)) (gV x2, 0) (gV x1, 0)) (gV (cvPT id)))) := by
      unfold slopeT
      rw [if_neg (fun e => ex e.1)]
      exact ((nm_of ry2).sub hm (nm_of ry1)).mul hm (((nm_of rx2).sub hm (nm_of rx1)).inv hm hp h4 (fun e => ne ((sub_same lx2 lx1).1 e).symm))
    exact line_txt (A := ((gV x1, 0), (gV y1, 0))) (B := ((gV x2, 0), (gV y2, 0))) hm (nm_of rx1) (nm_of ry1) (nm_of rx2) hs
end Go.Proofs.Ytkmmlfocidfghaa

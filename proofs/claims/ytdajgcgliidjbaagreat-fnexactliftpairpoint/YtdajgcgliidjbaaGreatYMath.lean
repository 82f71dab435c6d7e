import Derived.Test.YtdajgcgliidjbaaGreatRDraw
import Derived.Test.YtdajgcgliidjbaaGreatUBase
import Derived.Test.YtdajgcgliidjbaaGreatQMath
namespace Go.Proofs.YtdajgcgliidjbaaGreat
open Go.RowKit
def by4 {α : Type} (id : Int) (a b c d e : α) : α := if id = 1 then a else if id = 2 then b else if id = 3 then c else if id = 4 then d else e
def cvPT (id : Int) : ByteArray := by4 id cvP1 cvP2 cvP3 cvP4 ⟨#[]⟩
def cvRT (id : Int) : ByteArray := by4 id cvR1 cvR2 cvR3 cvR4 ⟨#[]⟩
def cvN1 : ByteArray := ⟨#[110, 97, 114, 114, 111, 119, 45, 115, 109, 97, 108, 108]⟩
def cvK1 : Pt := (⟨#[180, 37]⟩, ⟨#[4, 56, 219]⟩)
def cvN2 : ByteArray := ⟨#[98, 114, 111, 97, 100, 45, 115, 109, 97, 108, 108]⟩
def cvK2 : Pt := (⟨#[4]⟩, ⟨#[4]⟩)
def cvN3 : ByteArray := ⟨#[110, 97, 114, 114, 111, 119]⟩
def cvK3 : Pt := (⟨#[43, 20, 157, 64, 206, 184, 170, 174, 129, 190, 24, 153, 27, 224, 106, 195, 181, 180, 197, 229, 89, 219, 239, 163, 50, 103, 230, 220, 36, 161, 56, 229]⟩, ⟨#[151, 19, 176, 58, 240, 254, 212, 205, 44, 175, 173, 238, 216, 253, 244, 167, 79, 160, 132, 229, 45, 24, 82, 228, 162, 189, 6, 133, 195, 21, 210]⟩)
def cvN4 : ByteArray := ⟨#[98, 114, 111, 97, 100]⟩
def cvK4 : Pt := (⟨#[4]⟩, ⟨#[4]⟩)
def cvNT (id : Int) : ByteArray := by4 id cvN1 cvN2 cvN3 cvN4 ⟨#[]⟩
def cvBT (id : Int) : ByteArray := by4 id ⟨#[3]⟩ ⟨#[4]⟩ ⟨#[3]⟩ ⟨#[4]⟩ ⟨#[]⟩
def cvKT (id : Int) : Pt := by4 id cvK1 cvK2 cvK3 cvK4 noP
def cvSz (id : Int) : Int := by4 id 3 5 32 48 0
def cvSc (id : Int) : Int := by4 id 3 3 32 32 0
def cvBr (id : Int) : Bool := by4 id false true false true false
theorem four_ids {id : Int} (h : cvB id = true) : id = 1 ∨ id = 2 ∨ id = 3 ∨ id = 4 := by
 simp only [cvB, Bool.and_eq_true, decide_eq_true_eq] at h
 omega
theorem no_ids {id : Int} (h : cvB id = false) : id ≠ 1 ∧ id ≠ 2 ∧ id ≠ 3 ∧ id ≠ 4 := by
 simp only [cvB, Bool.and_eq_false_iff, decide_eq_false_iff_not] at h
 omega
theorem by4_no {α : Type} {id : Int} (h : cvB id = false) (a b c d e : α) : by4 id a b c d e = e := by
 obtain ⟨h1, h2, h3, h4⟩ := no_ids h
 unfold by4
 rw [if_neg h1, if_neg h2, if_neg h3, if_neg h4]
theorem cvC_eq (id : Int) : cvC id = #[.string (cvNT id), .string (cvPT id), .string (cvRT id), .string (cvBT id), .string (cvKT id).1, .string (cvKT id).2, .int .i64 (cvSz id), .int .i64 (cvSc id), .bool (cvBr id)] := by
 cases h : cvB id with
 | false =>
  obtain ⟨h1, h2, h3, h4⟩ := no_ids h
  unfold cvC cvNT cvPT cvRT cvBT cvKT cvSz cvSc cvBr
  simp only [by4_no h]
  rw [if_neg h1, if_neg h2, if_neg h3, if_neg h4]
  rfl
 | true => rcases four_ids h with rfl | rfl | rfl | rfl <;> rfl
def cube2G (id : Int) (x : Pt) : Pt := if cvB id && pairB x (cvPT id) then addPG (mulPG (mulPG x x (cvPT id)) x (cvPT id)) (cvKT id) (cvPT id) else noP
def scalB (id : Int) (s : ByteArray) : Bool := cvB id && restB s (cvRT id)
def spareN (id : Int) : Int := if cvB id then 8 * cvSz id - bitsG (cvPT id) else 0
def namedN (s : ByteArray) : Int := if sameT cvN1 s then 1 else if sameT cvN2 s then 2 else if sameT cvN3 s then 3 else if sameT cvN4 s then 4 else 0
structure CurveFit (id : Int) : Prop where
 mp : modB (cvPT id) = true
 mr : modB (cvRT id) = true
 b : restB (cvBT id) (cvPT id) = true
 k : pairB (cvKT id) (cvPT id) = true
 sb : (cvBT id).size ≤ 1000000
 sp : (cvPT id).size ≤ 1000000
theorem curve_fit {id : Int} (h : cvB id = true) : CurveFit id := by
 rcases four_ids h with rfl | rfl | rfl | rfl
 ·exact ⟨by decide +kernel, by decide +kernel, by decide +kernel, by decide +kernel, by decide +kernel, by decide +kernel⟩
 ·exact ⟨by decide +kernel, by decide +kernel, by decide +kernel, by decide +kernel, by decide +kernel, by decide +kernel⟩
 ·exact ⟨by decide +kernel, by decide +kernel, by decide +kernel, by decide +kernel, by decide +kernel, by decide +kernel⟩
 ·exact ⟨by decide +kernel, by decide +kernel, by decide +kernel, by decide +kernel, by decide +kernel, by decide +kernel⟩
theorem cvPT_no {id : Int} (h : cvB id = false) : cvPT id = ⟨#[]⟩ := by4_no h _ _ _ _ _
theorem restB_lt {x p : ByteArray} (h : restB x p = true) : gV x < gV p ∧ okG x = true ∧ okG p = true := by
 simp only [restB, Bool.and_eq_true, decide_eq_true_eq] at h
 exact ⟨h.2.2, h.1, h.2.1⟩
def rightP (n : Nat) (b x : Pn) : Pn := addP n (mulP n (mulP n x x) x) b
theorem right_in {n : Nat} (h : 0 < n) (b x : Pn) : InP2 n (rightP n b x) := addP_in h _ _
theorem cube_pair {x b : Pt} {p : ByteArray} (hx : pairB x p = true) (hb : pairB b p = true) : addPG (mulPG (mulPG x x p) x p) b p = txtP (rightP (gV p) (valP b) (valP x)) := by
 have hm := (pairB_parts hx).1
 have h0 := mod_pos hm
 obtain ⟨ix, ex⟩ := pair_num hx
 obtain ⟨ib, eb⟩ := pair_num hb
 generalize valP x = u at *
 generalize valP b = v at *
 subst ex eb
 rw [mul_txt hm ix ix, mul_txt hm (mulP_in h0 _ _) ix, add_txt hm (mulP_in h0 _ _) ib]
 rfl
theorem cube2_of {id : Int} {x : Pt} (h : cvB id = true) (hx : pairB x (cvPT id) = true) : txtP (rightP (gV (cvPT id)) (valP (cvKT id)) (valP x)) = cube2G id x := by
 have F := curve_fit h
 unfold cube2G
 rw [h, hx]
 exact (cube_pair hx F.k).symm
theorem cube2_no {id : Int} {x : Pt} (h : (cvB id && pairB x (cvPT id)) = false) : cube2G id x = noP := by unfold cube2G; rw [h]; rfl
structure CurveSays (id : Int) : Prop where
 one : scalB id ⟨#[1]⟩ = true
 r : scalB id (cvRT id) = false
 spare : 2 ≤ spareN id
 spareEq : spareN id = 8 * cvSz id - bitsG (cvPT id)
 bits : 0 ≤ bitsG (cvPT id) ∧ bitsG (cvPT id) ≤ 1280
 p : primeB (cvPT id) = true
 q : primeB (cvRT id) = true
 name : namedN (cvNT id) = id
 sz : 0 ≤ cvSz id ∧ cvSz id ≤ 48
theorem curve_says {id : Int} (h : cvB id = true) : CurveSays id := by
 rcases four_ids h with rfl | rfl | rfl | rfl
 ·exact ⟨by decide +kernel, by decide +kernel, by decide +kernel, by decide +kernel, by decide +kernel, by decide +kernel, by decide +kernel, by decide +kernel, by decide +kernel⟩
 ·exact ⟨by decide +kernel, by decide +kernel, by decide +kernel, by decide +kernel, by decide +kernel, by decide +kernel, by decide +kernel, by decide +kernel, by decide +kernel⟩
 ·exact ⟨by decide +kernel, by decide +kernel, by decide +kernel, by decide +kernel, by decide +kernel, by decide +kernel, by decide +kernel, by decide +kernel, by decide +kernel⟩
 ·exact ⟨by decide +kernel, by decide +kernel, by decide +kernel, by decide +kernel, by decide +kernel, by decide +kernel, by decide +kernel, by decide +kernel, by decide +kernel⟩
end Go.Proofs.YtdajgcgliidjbaaGreat

import Derived.Test.YtkmmlfocidfghaaGreatRDraw
import Derived.Test.YtkmmlfocidfghaaGreatUBase
import Derived.Test.YtkmmlfocidfghaaGreatQMath
namespace Go.Proofs.YtkmmlfocidfghaaGreat
open Go.RowKit
/-- One of five, by a curve's number. -/
def by4 {α : Type} (id : Int) (a b c d e : α) : α := if id = 1 then a else if id = 2 then b else if id = 3 then c else if id = 4 then d else e
def cvPT (id : Int) : ByteArray := by4 id cvP1 cvP2 cvP3 cvP4 ⟨#[]⟩
def cvRT (id : Int) : ByteArray := by4 id cvR1 cvR2 cvR3 cvR4 ⟨#[]⟩
def cvN1 : ByteArray := ⟨#[110, 97, 114, 114, 111, 119, 45, 115, 109, 97, 108, 108]⟩
def cvK1 : Pt := (⟨#[180, 37]⟩, ⟨#[4, 56, 219]⟩)
def cvN2 : ByteArray := ⟨#[98, 114, 111, 97, 100, 45, 115, 109, 97, 108, 108]⟩
def cvK2 : Pt := (⟨#[4]⟩, ⟨#[4]⟩)
def cvN3 : ByteArray := ⟨#[110, 97, 114, 114, 111, 119]⟩
def cvK3 : Pt := (⟨#[43, 20, 157, 64, 206, 184, 170, 174, 129, 190, 24, 153, 27, 224, 106, 195, 181, 180, 197, 229, 89, 219, 239, 163, 50, 103, 230, 220, 36, 161, 56, 229]⟩, ⟨#[151, 19, 176, 58, 240, 254, 212, 205, 44, 175, 173, 238, 216, 253, 244, 167, 79, 160, 132, 229, 45, 24, 82, 228, 162, 189, 6, 133, 195, 21, 210]⟩)
def cvN4 : ByteArray := ⟨#[98, 114, 111, 97, 100]⟩
def cvK4 : Pt := (⟨#[4]⟩, ⟨#[4]⟩)
def cvNT (id : Int) : ByteArray := by4 id cvN1 cvN2 cvN3 cvN4 ⟨#[]⟩
def cvBT (id : Int) : ByteArray := by4 id ⟨#[3]⟩ ⟨#[4]⟩ ⟨#[3]⟩ ⟨#[4]⟩ ⟨#[]⟩
def cvKT (id : Int) : Pt := by4 id cvK1 cvK2 cvK3 cvK4 noP
def cvSz (id : Int) : Int := by4 id 3 5 32 48 0
def cvSc (id : Int) : Int := by4 id 3 3 32 32 0
def cvBr (id : Int) : Bool := by4 id false true false true false
theorem four_ids {id : Int} (h : cvB id = true) : id = 1 ∨ id = 2 ∨ id = 3 ∨ id = 4 := by
  simp only [cvB, Bool.and_eq_true, decide_eq_true_eq] at h
  omega
theorem no_ids {id : Int} (h : cvB id = false) : id ≠ 1 ∧ id ≠ 2 ∧ id ≠ 3 ∧ id ≠ 4 := by
  simp only [cvB, Bool.and_eq_false_iff, decide_eq_false_iff_not] at h
  omega
theorem by4_no {α : Type} {id : Int} (h : cvB id = false) (a b c d e : α) : by4 id a b c d e = e := by
  obtain ⟨h1, h2, h3, h4⟩ := no_ids h
  unfold by4
  rw [if_neg h1, if_neg h2, if_neg h3, if_neg h4]
theorem cvC_eq (id : Int) : cvC id = #[.string (cvNT id), .string (cvPT id), .string (cvRT id), .string (cvBT id), .string (cvKT id).1, .string (cvKT id).2, .int .i64 (cvSz id), .int .i64 (cvSc id), .bool (cvBr id)] := by
  cases h : cvB id with
  | false =>
    obtain ⟨h1, h2, h3, h4⟩ := no_ids h
    unfold cvC cvNT cvPT cvRT cvBT cvKT cvSz cvSc cvBr
    simp only [by4_no h]
    rw [if_neg h1, if_neg h2, if_neg h3, if_neg h4]
    rfl
  | true => rcases four_ids h with rfl | rfl | rfl | rfl <;> rfl
/-- What chapter 9 answers. -/
def cubeG (id : Int) (x : ByteArray) : ByteArray := if cvB id && restB x (cvPT id) then addR (mulR (mulR x x (cvPT id)) x (cvPT id)) (cvBT id) (cvPT id) else ⟨#[]⟩
def scalB (id : Int) (s : ByteArray) : Bool := cvB id && restB s (cvRT id)
def spareN (id : Int) : Int := if cvB id then 8 * cvSz id - bitsG (cvPT id) else 0
def namedN (s : ByteArray) : Int := if sameT cvN1 s then 1 else if sameT cvN2 s then 2 else if sameT cvN3 s then 3 else if sameT cvN4 s then 4 else 0
structure CurveFit (id : Int) : Prop where
  mp : modB (cvPT id) = true
  mr : modB (cvRT id) = true
  b : restB (cvBT id) (cvPT id) = true
  k : pairB (cvKT id) (cvPT id) = true
  sb : (cvBT id).size ≤ 1000000
  sp : (cvPT id).size ≤ 1000000
theorem curve_fit {id : Int} (h : cvB id = true) : CurveFit id := by
  rcases four_ids h with rfl | rfl | rfl | rfl
  · exact ⟨by decide +kernel, by decide +kernel, by decide +kernel, by decide +kernel, by decide +kernel, by decide +kernel⟩
  · exact ⟨by decide +kernel, by decide +kernel, by decide +kernel, by decide +kernel, by decide +kernel, by decide +kernel⟩
  · exact ⟨by decide +kernel, by decide +kernel, by decide +kernel, by decide +kernel, by decide +kernel, by decide +kernel⟩
  · exact ⟨by decide +kernel, by decide +kernel, by decide +kernel, by decide +kernel, by decide +kernel, by decide +kernel⟩
theorem cvPT_no {id : Int} (h : cvB id = false) : cvPT id = ⟨#[]⟩ := by4_no h _ _ _ _ _
theorem restB_lt {x p : ByteArray} (h : restB x p = true) : gV x < gV p ∧ okG x = true ∧ okG p = true := by
  simp only [restB, Bool.and_eq_true, decide_eq_true_eq] at h
  exact ⟨h.2.2, h.1, h.2.1⟩
theorem two_of {x y p : ByteArray} (hm : modB p = true) (hx : restB x p = true) (hy : restB y p = true) : twoB x y p = true := by unfold twoB; rw [hm, hx, hy]; rfl
theorem rest_of_lt {n : Nat} {p : ByteArray} (hm : modB p = true) (h : n < gV p) : restB (gS n) p = true := by
  have hp := gV_lt (modB_parts hm).1
  unfold restB
  rw [gV_gS, okS (by omega), (modB_parts hm).1, decide_eq_true h]; rfl
theorem mul_num {x y p : ByteArray} (hm : modB p = true) (hx : restB x p = true) (hy : restB y p = true) : mulR x y p = gS (gV x * gV y % gV p) := by unfold mulR; rw [two_of hm hx hy, if_pos rfl]
theorem add_num {x y p : ByteArray} (hm : modB p = true) (hx : restB x p = true) (hy : restB y p = true) : addR x y p = gS ((gV x + gV y) % gV p) := by unfold addR; rw [two_of hm hx hy, if_pos rfl]
/-- The cube of a rest and one more, as a number. -/
def cubeN (n b x : Nat) : Nat := (x * x % n * x % n + b) % n
theorem cube_num {x b p : ByteArray} (hm : modB p = true) (hx : restB x p = true) (hb : restB b p = true) : addR (mulR (mulR x x p) x p) b p = gS (cubeN (gV p) (gV b) (gV x)) := by
  have hp : 0 < gV p := by have := (modB_parts hm).2; omega
  rw [mul_num hm hx hx, mul_num hm (rest_of_lt hm (Nat.mod_lt _ hp)) hx, add_num hm (rest_of_lt hm (Nat.mod_lt _ hp)) hb, gV_gS, gV_gS]
  rfl
theorem mul_bare {n a b : Nat} (h : 0 < n) : mulP n (a, 0) (b, 0) = (a * b % n, 0) := by
  have h1 : a * b % n < n := Nat.mod_lt _ h
  have h2 : (a * b % n + n - 0 * 0 % n) % n = a * b % n := by
    rw [Nat.zero_mul, Nat.zero_mod, Nat.sub_zero, Nat.add_mod_right, Nat.mod_mod]
  have h3 : (a * 0 % n + 0 * b % n) % n = 0 := by
    rw [Nat.mul_zero, Nat.zero_mul, Nat.zero_mod, Nat.add_zero, Nat.zero_mod]
  unfold mulP
  exact Prod.ext h2 h3
/-- The right side of a curve, over pairs. -/
def rightP (n : Nat) (b x : Pn) : Pn := addP n (mulP n (mulP n x x) x) b
theorem right_bare {n b x : Nat} (h : 0 < n) : rightP n (b, 0) (x, 0) = (cubeN n b x, 0) := by
  have h3 : (0 + 0) % n = 0 := Nat.zero_mod n
  unfold rightP
  rw [mul_bare h, mul_bare h]
  exact Prod.ext rfl h3
theorem right_in {n : Nat} (h : 0 < n) (b x : Pn) : InP2 n (rightP n b x) := addP_in h _ _
/-- What spec does over pairs, over rests. -/
theorem cube_of {id : Int} {x : ByteArray} (h : cvB id = true) (hx : restB x (cvPT id) = true) : (txtP (rightP (gV (cvPT id)) (gV (cvBT id), 0) (gV x, 0))).1 = cubeG id x := by
  have F := curve_fit h
  unfold cubeG
  rw [h, hx, right_bare (mod_pos F.mp)]
  exact (cube_num F.mp hx F.b).symm
theorem cube_no {id : Int} {x : ByteArray} (h : (cvB id && restB x (cvPT id)) = false) : cubeG id x = ⟨#[]⟩ := by unfold cubeG; rw [h]; rfl
def bsX1 : ByteArray := ⟨#[1]⟩
def bsY1 : ByteArray := ⟨#[2]⟩
def bsX2 : ByteArray := ⟨#[67, 62, 178, 27]⟩
def bsY2 : ByteArray := ⟨#[1, 45, 53, 103, 74]⟩
def bsX3 : ByteArray := ⟨#[1]⟩
def bsY3 : ByteArray := ⟨#[2]⟩
def bsX4 : ByteArray := ⟨#[23, 241, 211, 167, 49, 151, 215, 148, 38, 149, 99, 140, 79, 169, 172, 15, 195, 104, 140, 79, 151, 116, 185, 5, 161, 78, 58, 63, 23, 27, 172, 88, 108, 85, 232, 63, 249, 122, 26, 239, 251, 58, 240, 10, 219, 34, 198, 187]⟩
def bsY4 : ByteArray := ⟨#[8, 179, 244, 129, 227, 170, 160, 241, 160, 158, 48, 237, 116, 29, 138, 228, 252, 245, 224, 149, 213, 208, 10, 246, 0, 219, 24, 203, 44, 4, 179, 237, 208, 60, 199, 68, 162, 136, 138, 228, 12, 170, 35, 41, 70, 197, 231, 225]⟩
def bsX (id : Int) : ByteArray := by4 id bsX1 bsX2 bsX3 bsX4 ⟨#[]⟩
def bsY (id : Int) : ByteArray := by4 id bsY1 bsY2 bsY3 bsY4 ⟨#[]⟩
/-- What FnCurves asks of the numbers. -/
structure CurveSays (id : Int) : Prop where
  one : scalB id ⟨#[1]⟩ = true
  r : scalB id (cvRT id) = false
  spare : 2 ≤ spareN id
  spareEq : spareN id = 8 * cvSz id - bitsG (cvPT id)
  bits : 0 ≤ bitsG (cvPT id) ∧ bitsG (cvPT id) ≤ 1280
  p : primeB (cvPT id) = true
  q : primeB (cvRT id) = true
  name : namedN (cvNT id) = id
  sz : 0 ≤ cvSz id ∧ cvSz id ≤ 48
theorem curve_says {id : Int} (h : cvB id = true) : CurveSays id := by
  rcases four_ids h with rfl | rfl | rfl | rfl
  · exact ⟨by decide +kernel, by decide +kernel, by decide +kernel, by decide +kernel, by decide +kernel, by decide +kernel, by decide +kernel, by decide +kernel, by decide +kernel⟩
  · exact ⟨by decide +kernel, by decide +kernel, by decide +kernel, by decide +kernel, by decide +kernel, by decide +kernel, by decide +kernel, by decide +kernel, by decide +kernel⟩
  · exact ⟨by decide +kernel, by decide +kernel, by decide +kernel, by decide +kernel, by decide +kernel, by decide +kernel, by decide +kernel, by decide +kernel, by decide +kernel⟩
  · exact ⟨by decide +kernel, by decide +kernel, by decide +kernel, by decide +kernel, by decide +kernel, by decide +kernel, by decide +kernel, by decide +kernel, by decide +kernel⟩
end Go.Proofs.YtkmmlfocidfghaaGreat

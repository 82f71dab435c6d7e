import Derived.Test.YtdajgcgliidjbaaRDraw
import Derived.Test.YtdajgcgliidjbaaUBase
import Derived.Test.YtdajgcgliidjbaaMAll
import Derived.Maps.AppendAt
import Derived.Laws.AppendOwnNone
namespace Go.Proofs.Ytdajgcgliidjbaa
open Go.RowKit
def by4 {α : Type} (id : Int) (a b c d e : α) : α := if id = 1 then a else if id = 2 then b else if id = 3 then c else if id = 4 then d else e
theorem four_ids {id : Int} (h : cvB id = true) : id = 1 ∨ id = 2 ∨ id = 3 ∨ id = 4 := by
  simp only [cvB, Bool.and_eq_true, decide_eq_true_eq] at h
  omega
theorem no_ids {id : Int} (h : cvB id = false) : id ≠ 1 ∧ id ≠ 2 ∧ id ≠ 3 ∧ id ≠ 4 := by
  simp only [cvB, Bool.and_eq_false_iff, decide_eq_false_iff_not] at h
  omega
theorem by4_no {α : Type} {id : Int} (h : cvB id = false) (a b c d e : α) : by4 id a b c d e = e := by
  obtain ⟨h1, h2, h3, h4⟩ := no_ids h
  unfold by4
  rw [if_neg h1, if_neg h2, if_neg h3, if_neg h4]
def bpX1 : Pt := (⟨#[16, 67, 128]⟩, ⟨#[2, 2, 138]⟩)
def bpY1 : Pt := (⟨#[9, 214, 145]⟩, ⟨#[7, 77, 16]⟩)
def bpX2 : Pt := (⟨#[1, 102, 213, 209, 47]⟩, ⟨#[1, 137, 76, 68, 202]⟩)
def bpY2 : Pt := (⟨#[64, 198, 173, 233]⟩, ⟨#[1, 178, 254, 95, 222]⟩)
def bpX3 : Pt := (⟨#[24, 0, 222, 239, 18, 31, 30, 118, 66, 106, 0, 102, 94, 92, 68, 121, 103, 67, 34, 212, 247, 94, 218, 221, 70, 222, 189, 92, 217, 146, 246, 237]⟩, ⟨#[25, 142, 147, 147, 146, 13, 72, 58, 114, 96, 191, 183, 49, 251, 93, 37, 241, 170, 73, 51, 53, 169, 231, 18, 151, 228, 133, 183, 174, 243, 18, 194]⟩)
def bpY3 : Pt := (⟨#[18, 200, 94, 165, 219, 140, 109, 235, 74, 171, 113, 128, 141, 203, 64, 143, 227, 209, 231, 105, 12, 67, 211, 123, 76, 230, 204, 1, 102, 250, 125, 170]⟩, ⟨#[9, 6, 137, 208, 88, 95, 240, 117, 236, 158, 153, 173, 105, 12, 51, 149, 188, 75, 49, 51, 112, 179, 142, 243, 85, 172, 218, 220, 209, 34, 151, 91]⟩)
def bpX4 : Pt := (⟨#[2, 74, 162, 178, 240, 143, 10, 145, 38, 8, 5, 39, 45, 197, 16, 81, 198, 228, 122, 212, 250, 64, 59, 2, 180, 81, 11, 100, 122, 227, 209, 119, 11, 172, 3, 38, 168, 5, 187, 239, 212, 128, 86, 200, 193, 33, 189, 184]⟩, ⟨#[19, 224, 43, 96, 82, 113, 159, 96, 125, 172, 211, 160, 136, 39, 79, 101, 89, 107, 208, 208, 153, 32, 182, 26, 181, 218, 97, 187, 220, 127, 80, 73, 51, 76, 241, 18, 19, 148, 93, 87, 229, 172, 125, 5, 93, 4, 43, 126]⟩)
def bpY4 : Pt := (⟨#[12, 229, 213, 39, 114, 125, 110, 17, 140, 201, 205, 198, 218, 46, 53, 26, 173, 253, 155, 170, 140, 189, 211, 167, 109, 66, 154, 105, 81, 96, 209, 44, 146, 58, 201, 204, 59, 172, 162, 137, 225, 147, 84, 134, 8, 184, 40, 1]⟩, ⟨#[6, 6, 196, 160, 46, 167, 52, 204, 50, 172, 210, 176, 43, 194, 139, 153, 203, 62, 40, 126, 133, 167, 99, 175, 38, 116, 146, 171, 87, 46, 153, 171, 63, 55, 13, 39, 92, 236, 29, 161, 170, 169, 7, 95, 240, 95, 121, 190]⟩)
def bpX (id : Int) : Pt := by4 id bpX1 bpX2 bpX3 bpX4 noP
def bpY (id : Int) : Pt := by4 id bpY1 bpY2 bpY3 bpY4 noP
end Go.Proofs.Ytdajgcgliidjbaa

/-
  The curves of spec (l09Curve, CurveOf) and the draws of chapter 4 (l04Modulus, l04Rest, l04Args, DrawMulRest, DrawRestOk, DrawInverseRest, DrawPowRest).
-/
import Derived.Test.YtdbjjnbmbeabeaaGDraw
import Derived.Test.YtdbjjnbmbeabeaaRSpecB
import Derived.Test.YtdbjjnbmbeabeaaTBytes
import Derived.Laws.Rows
import Derived.Laws.Tables
namespace Go.Proofs.Ytdbjjnbmbeabeaa
open Go.RowKit

def cvP1 : ByteArray := ⟨#[26, 9, 71]⟩
def cvR1 : ByteArray := ⟨#[26, 4, 1]⟩
def cv1 : Array Value := #[.string ⟨#[110, 97, 114, 114, 111, 119, 45, 115, 109, 97, 108, 108]⟩, .string cvP1, .string cvR1, .string ⟨#[3]⟩, .string ⟨#[180, 37]⟩, .string ⟨#[4, 56, 219]⟩, .int .i64 3, .int .i64 3, .bool false]
def cvP2 : ByteArray := ⟨#[2, 122, 161, 225, 67]⟩
def cvR2 : ByteArray := ⟨#[150, 3, 193]⟩
def cv2 : Array Value := #[.string ⟨#[98, 114, 111, 97, 100, 45, 115, 109, 97, 108, 108]⟩, .string cvP2, .string cvR2, .string ⟨#[4]⟩, .string ⟨#[4]⟩, .string ⟨#[4]⟩, .int .i64 5, .int .i64 3, .bool true]
def cvP3 : ByteArray := ⟨#[48, 100, 78, 114, 225, 49, 160, 41, 184, 80, 69, 182, 129, 129, 88, 93, 151, 129, 106, 145, 104, 113, 202, 141, 60, 32, 140, 22, 216, 124, 253, 71]⟩
def cvR3 : ByteArray := ⟨#[48, 100, 78, 114, 225, 49, 160, 41, 184, 80, 69, 182, 129, 129, 88, 93, 40, 51, 232, 72, 121, 185, 112, 145, 67, 225, 245, 147, 240, 0, 0, 1]⟩
def cv3 : Array Value := #[.string ⟨#[110, 97, 114, 114, 111, 119]⟩, .string cvP3, .string cvR3, .string ⟨#[3]⟩, .string ⟨#[43, 20, 157, 64, 206, 184, 170, 174, 129, 190, 24, 153, 27, 224, 106, 195, 181, 180, 197, 229, 89, 219, 239, 163, 50, 103, 230, 220, 36, 161, 56, 229]⟩, .string ⟨#[151, 19, 176, 58, 240, 254, 212, 205, 44, 175, 173, 238, 216, 253, 244, 167, 79, 160, 132, 229, 45, 24, 82, 228, 162, 189, 6, 133, 195, 21, 210]⟩, .int .i64 32, .int .i64 32, .bool false]
def cvP4 : ByteArray := ⟨#[26, 1, 17, 234, 57, 127, 230, 154, 75, 27, 167, 182, 67, 75, 172, 215, 100, 119, 75, 132, 243, 133, 18, 191, 103, 48, 210, 160, 246, 176, 246, 36, 30, 171, 255, 254, 177, 83, 255, 255, 185, 254, 255, 255, 255, 255, 170, 171]⟩
def cvR4 : ByteArray := ⟨#[115, 237, 167, 83, 41, 157, 125, 72, 51, 57, 216, 8, 9, 161, 216, 5, 83, 189, 164, 2, 255, 254, 91, 254, 255, 255, 255, 255, 0, 0, 0, 1]⟩
def cv4 : Array Value := #[.string ⟨#[98, 114, 111, 97, 100]⟩, .string cvP4, .string cvR4, .string ⟨#[4]⟩, .string ⟨#[4]⟩, .string ⟨#[4]⟩, .int .i64 48, .int .i64 32, .bool true]
abbrev cv0 : Array Value := #[.string ⟨#[]⟩, .string ⟨#[]⟩, .string ⟨#[]⟩, .string ⟨#[]⟩, .string ⟨#[]⟩, .string ⟨#[]⟩, .int .i64 0, .int .i64 0, .bool false]
/-- A curve's fields, by its number. -/
def cvC (id : Int) : Array Value := if id = 1 then cv1 else if id = 2 then cv2 else if id = 3 then cv3 else if id = 4 then cv4 else cv0
theorem cvC_size (id : Int) : (cvC id).size = 9 := by
  unfold cvC
  split
  · rfl
  split
  · rfl
  split
  · rfl
  split <;> rfl
def cvB (id : Int) : Bool := decide (1 ≤ id) && decide (id ≤ 4)
theorem below_setRow2 {B : Nat} {w wr : World} (h : Below B w wr) {g : Nat} (hg : B ≤ g) (cs : Array Value) : Below B w (wr.setRow g cs) :=
  ⟨h.os, h.tape, h.output, by rw [size_setRow]; exact h.size, fun i hi => (setRow_other wr g i cs (by omega)).trans (h.block i hi)⟩
theorem cvC_one (id : Int) : (cvC id).all (·.oneCell') = true := by
  unfold cvC
  split
  · kernel_rfl
  split
  · kernel_rfl
  split
  · kernel_rfl
  split <;> kernel_rfl
theorem gS_small {n : Nat} (h : n < GB) : (gS n).size ≤ 2000 := by
  have : okG (gS n) = true := by rw [okG_gS]; simpa using h
  have := okG_size this; omega
theorem subG_size (a b : ByteArray) : (subG a b).size ≤ 2000 := by
  unfold subG
  split
  · rename_i h
    refine gS_small (Nat.lt_of_le_of_lt (Nat.sub_le _ _) (gV_lt ?_))
    simp [subB, okT] at h
    exact h.1.1
  · decide
theorem restG_size (a p : ByteArray) : (restG a p).size ≤ 2000 := by
  unfold restG
  split
  · rename_i h
    simp only [Bool.and_eq_true] at h
    exact gS_small (Nat.lt_of_le_of_lt (Nat.mod_le _ _) (gV_lt h.2))
  · decide
def ThreePost (w : World) (e : Ending) (w' : World) : Prop := ∃ a b p : ByteArray, e = .returned (.tuple #[.string a, .string b, .string p]) ∧ Below w.heap.size w w'
def PairPost (w : World) (e : Ending) (w' : World) : Prop := ∃ a p : ByteArray, e = .returned (.tuple #[.string a, .string p]) ∧ Below w.heap.size w w'
end Go.Proofs.Ytdbjjnbmbeabeaa

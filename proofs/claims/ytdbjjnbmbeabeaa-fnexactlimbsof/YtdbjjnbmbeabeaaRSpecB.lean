/-
  The contracts of spec.RestOf, PowRest, InverseRest, NegRest, HalfRest.
-/
import Derived.Test.YtdbjjnbmbeabeaaRSpec
namespace Go.Proofs.Ytdbjjnbmbeabeaa
open Go.RowKit

def InvG (a p : ByteArray) (w : World) (e : Ending) (w' : World) : Prop := e = .returned (.tuple #[.string (invR a p), .bool (invB a p)]) ∧ Below w.heap.size w w'
theorem InvG.no {a p : ByteArray} {w w' : World} (h : invB a p = false) (b : Below w.heap.size w w') : InvG a p w (.returned (.tuple #[.string ⟨#[]⟩, .bool false])) w' := by
  unfold InvG invR; rw [h]; exact ⟨rfl, b⟩
theorem InvG.yes {a p : ByteArray} {w w' : World} {x : Nat} (h : invB a p = true) (hx : x < gV p) (e : x * gV a % gV p = 1) (b : Below w.heap.size w w') : InvG a p w (.returned (.tuple #[.string (gS x), .bool true])) w' := by
  unfold InvG invR; rw [h, if_pos rfl, invN_eq hx e]; exact ⟨rfl, b⟩
theorem bit_zero {p : ByteArray} (ok : okG p = true) (h : 1 < gV p) : bitG p 0 = ((gV p % 2 : Nat) : Int) := by
  unfold bitG
  have hs : 0 < p.size := by
    rcases Nat.eq_zero_or_pos p.size with e | e
    · have := gV_empty e; omega
    · exact e
  rw [ok, decide_eq_true (show (0 : Int) ≤ 0 by omega), decide_eq_true (show (0 : Int).toNat / 8 < p.size by simpa using hs)]
  simp
end Go.Proofs.Ytdbjjnbmbeabeaa

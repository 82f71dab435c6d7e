import Derived.Test.YtmbhodhghgdbhaaRDraw
import Derived.Test.YtmbhodhghgdbhaaMAll
import Derived.Maps.AppendAt
import Derived.Laws.AppendOwnNone
namespace Go.Proofs.Ytmbhodhghgdbhaa
open Go.RowKit
theorem okS {x : Nat} (h : x < GB) : okG (gS x) = true := by rw [okG_gS]; simpa using h
theorem rest_gS {x : Nat} {p : ByteArray} (hp : modB p = true) (hx : x < gV p) : restB (gS x) p = true := by
  obtain ⟨okp, _⟩ := modB_parts hp
  have := gV_lt okp
  unfold restB
  rw [okS (by omega), okp, gV_gS, decide_eq_true hx]; rfl
/-- A right rest, by its number. -/
theorem rest_num {a p : ByteArray} (h : restB a p = true) : a = gS (gV a) ∧ gV a < gV p := by
  obtain ⟨oka, _, hl⟩ := restB_parts h
  exact ⟨(gS_gV oka).symm, hl⟩
end Go.Proofs.Ytmbhodhghgdbhaa

import Derived.Test.YtejmogdognenmaaRDraw
import Derived.Test.YtejmogdognenmaaMAll
import Derived.Maps.AppendAt
import Derived.Laws.AppendOwnNone
namespace Go.Proofs.Ytejmogdognenmaa
open Go.RowKit
theorem okS {x : Nat} (h : x < GB) : okG (gS x) = true := by rw [okG_gS]; simpa using h
theorem rest_gS {x : Nat} {p : ByteArray} (hp : modB p = true) (hx : x < gV p) : restB (gS x) p = true := by
  obtain ⟨okp, _⟩ := modB_parts hp
  have := gV_lt okp
  unfold restB
  rw [okS (by omega), okp, gV_gS, decide_eq_true hx]; rfl
/-- A right rest, by its number. -/
theorem rest_num {a p : ByteArray} (h : restB a p = true) : a = gS (gV a) ∧ gV a < gV p := by
  obtain ⟨oka, _, hl⟩ := restB_parts h
  exact ⟨(gS_gV oka).symm, hl⟩
theorem gS_one : gS 1 = ⟨#[1]⟩ := by unfold gS; rw [gT_pos (by omega), show 1 / 256 = 0 from rfl, gT_zero]; rfl
end Go.Proofs.Ytejmogdognenmaa

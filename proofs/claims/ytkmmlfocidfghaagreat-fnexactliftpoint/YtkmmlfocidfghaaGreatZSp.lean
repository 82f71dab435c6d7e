import Derived.Test.YtkmmlfocidfghaaGreatZLaw
import Derived.Test.YtkmmlfocidfghaaGreatJTri
import Derived.Test.YtkmmlfocidfghaaGreatYSpec
import Derived.Test.YtkmmlfocidfghaaGreatJRests
import Derived.Test.YtkmmlfocidfghaaGreatZPoint
/-
  The sum of two right points, reckoned as impl does: the same point.
-/
namespace Go.Proofs.YtkmmlfocidfghaaGreat
open Go.RowKit
end Go.Proofs.YtkmmlfocidfghaaGreat
/-
  impl's coordinates: rests with their prime, called through an interface.
-/
namespace Go.Proofs.YtkmmlfocidfghaaGreat
open Go.RowKit
section
variable {P : Program} {ops : Array Oper} {Q : Exit → Act → World → Prop} {S : World → Prop} {K : Act → World → Prop} {i : Nat} {r : List (Bool × Nat)} {a : Act} {w : World}
end
/-! Compared part by part. -/
theorem bl_iff {s t : ByteArray} : s.toList = t.toList ↔ s = t := by
  refine ⟨fun h => ?_, fun h => by rw [h]⟩
  rw [ByteArray.toList_eq, ByteArray.toList_eq] at h
  cases s; cases t
  exact congrArg ByteArray.mk (Array.toList_inj.1 h)
/-! Blocks of a call: what is loaded of them. -/
theorem ld_s {L : List (Nat × Array Value × TypeId)} {g k : Nat} {C : Array Value} {t : TypeId} {s : ByteArray} (hm : (g, C, t) ∈ L) (h : C[k]? = some (.string s)) : ∀ w', Held w' L → (Instr.loadAt 9 (.pointer (some ⟨g, k, none⟩))).run Tryz.prog w' = .ok (.string s) w' :=
  fun w' hw => str_load ((cell_of_row w' g k _ _ _ (hw _ hm)).trans h)
end Go.Proofs.YtkmmlfocidfghaaGreat
/-
  impl's points with their coordinates: the slope, the sum.
-/
namespace Go.Proofs.YtkmmlfocidfghaaGreat
open Go.RowKit
theorem ld_pt {L : List (Nat × Array Value × TypeId)} {g : Nat} {C : Array Value} {t : TypeId} (hm : (g, C, t) ∈ L) (hs : Nat.beq C.size 3 = true) : ∀ w', Held w' L → (Instr.loadAt 25 (.pointer (some ⟨g, 0, none⟩))).run Tryz.prog w' = .ok (.agg C) w' :=
  fun w' hw => cells_load (hw _ hm) Tryz.underlying25 rfl (by rw [Nat.eq_of_beq_eq_true hs]; exact Tryz.infoPoint)
theorem then_ret {K : Act → World → Prop} {Q : Exit → Act → World → Prop} {a : Act} {w : World} (h : Q .ret a w) : Exit.then K Q .ret a w := h
end Go.Proofs.YtkmmlfocidfghaaGreat

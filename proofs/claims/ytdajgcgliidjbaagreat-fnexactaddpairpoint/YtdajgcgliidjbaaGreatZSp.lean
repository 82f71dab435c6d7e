import Derived.Test.YtdajgcgliidjbaaGreatZPoint
import Derived.Test.YtdajgcgliidjbaaGreatQMath
import Derived.Deep.LoopGhost
import Derived.Test.YtdajgcgliidjbaaGreatJTri
import Derived.Test.YtdajgcgliidjbaaGreatYSpec
import Derived.Test.YtdajgcgliidjbaaGreatJRests
namespace Go.Proofs.YtdajgcgliidjbaaGreat
open Go.RowKit
end Go.Proofs.YtdajgcgliidjbaaGreat
namespace Go.Proofs.YtdajgcgliidjbaaGreat
open Go.RowKit
section
variable {P : Program} {ops : Array Oper} {Q : Exit → Act → World → Prop} {S : World → Prop} {K : Act → World → Prop} {i : Nat} {r : List (Bool × Nat)} {a : Act} {w : World}
def invokeOf : Op → Option (Operand × String × Array Operand)
 | .call ⟨.invoke x n, xs, _⟩ => some (x, n, xs)
 | _ => none
theorem invokeOf_spec {o : Op} {x : Operand} {n : String} {xs : Array Operand} (h : invokeOf o = some (x, n, xs)) : ∃ ts, o = .call ⟨.invoke x n, xs, ts⟩ := by
 unfold invokeOf at h
 split at h
 ·simp only [Option.some.injEq, Prod.mk.injEq] at h
  obtain ⟨rfl, rfl, rfl⟩ := h
  exact ⟨_, rfl⟩
 ·cases h
theorem sq_ci (d : Option Tmp) {f : FuncId} {rv : Value} {n : String} {xs vs : Array Value} {R : Ending → World → Prop} (he : ∀ w, (callMethod rv n xs).run P w = .ok (.enter f vs) w) (C : Calls P f vs w R)
  (h : ((oAt ops i).dst, Nat.blt i ops.size, Region.wanted (oAt ops i) (yielded ops a.tmps), (invokeOf (oAt ops i).op).map (fun p => (a.eval p.1, p.2.1, p.2.2.map a.eval))) = (d, true, true, some (rv, n, xs)))
  (k : ∀ e w', R e w' → ∃ v, e = .returned v ∧ S w' ∧ seqH P ops Q S K r (a.put d v) w') : seqH P ops Q S K ((false, i) :: r) a w := by
 simp only [Prod.mk.injEq] at h
 obtain ⟨hd, hi, hw, hl⟩ := h
 cases hq : invokeOf (oAt ops i).op with
 | none => rw [hq] at hl; cases hl
 | some q =>
  obtain ⟨x, n', ys⟩ := q
  rw [hq] at hl
  simp only [Option.map_some, Option.some.injEq, Prod.mk.injEq] at hl
  obtain ⟨h1, rfl, h3⟩ := hl
  obtain ⟨ts, ho⟩ := invokeOf_spec hq
  refine sq_call d f vs hd hi hw (fun w' => ?_) (C.mono k)
  unfold execOp
  rw [ho]
  simp only [resolve, invoke]
  have e1 : (#[a.eval x] ++ ys.map a.eval)[0]? = some rv := by rw [h1, Array.getElem?_append_left (by simp)]; rfl
  have e2 : (#[a.eval x] ++ ys.map a.eval).extract 1 (#[a.eval x] ++ ys.map a.eval).size = xs := by
   rw [h3]
   apply Array.ext'
   simp
  simp only [Sem.run_bind, Sem.run_pure, Result.andThen_ok]
  rw [e1, e2]
  exact he w'
theorem g_ci (d : Option Tmp) {f : FuncId} {rv : Value} {n : String} {xs vs : Array Value} {R : Ending → World → Prop} (he : ∀ w, (callMethod rv n xs).run P w = .ok (.enter f vs) w) (C : Calls P f vs w R)
  (h : ((oAt ops i).dst, Nat.blt i ops.size, Region.wanted (oAt ops i) (yielded ops a.tmps), (invokeOf (oAt ops i).op).map (fun p => (a.eval p.1, p.2.1, p.2.2.map a.eval))) = (d, true, true, some (rv, n, xs)))
  (k : ∀ e w', R e w' → ∃ v, e = .returned v ∧ S w' ∧ SQ P ops Q S K r (a.put d v) w') : SQ P ops Q S K ((false, i) :: r) a w :=
 ⟨sq_ci d he C h fun e w' hR => by
  obtain ⟨v, h1, h2, h3⟩ := k e w' hR
  exact ⟨v, h1, h2, h3.out⟩⟩
end
theorem bl_iff {s t : ByteArray} : s.toList = t.toList ↔ s = t := by
 refine ⟨fun h => ?_, fun h => by rw [h]⟩
 rw [ByteArray.toList_eq, ByteArray.toList_eq] at h
 cases s; cases t
 exact congrArg ByteArray.mk (Array.toList_inj.1 h)
theorem ld_s {L : List (Nat × Array Value × TypeId)} {g k : Nat} {C : Array Value} {t : TypeId} {s : ByteArray} (hm : (g, C, t) ∈ L) (h : C[k]? = some (.string s)) : ∀ w', Held w' L → (Instr.loadAt 9 (.pointer (some ⟨g, k, none⟩))).run Tryz.prog w' = .ok (.string s) w' :=
 fun w' hw => str_load ((cell_of_row w' g k _ _ _ (hw _ hm)).trans h)
end Go.Proofs.YtdajgcgliidjbaaGreat
namespace Go.Proofs.YtdajgcgliidjbaaGreat
open Go.RowKit
section
variable {P : Program} {ops : Array Oper} {S : World → Prop} {R : Act → World → Prop} {a : Act} {w : World}
end
theorem then_ret {K : Act → World → Prop} {Q : Exit → Act → World → Prop} {a : Act} {w : World} (h : Q .ret a w) : Exit.then K Q .ret a w := h
theorem block_ret {l : Nat} {Q : Exit → Act → World → Prop} {a : Act} {w : World} (h : Q .ret a w) : Exit.inBlock l Q .ret a w := h
end Go.Proofs.YtdajgcgliidjbaaGreat

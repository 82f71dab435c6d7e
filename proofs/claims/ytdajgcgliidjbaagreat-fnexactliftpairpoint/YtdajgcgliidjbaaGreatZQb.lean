import Derived.Test.YtdajgcgliidjbaaGreatZPoint
import Derived.Test.YtdajgcgliidjbaaGreatWkB
import Derived.Test.YtdajgcgliidjbaaGreatYCurve
set_option maxRecDepth 8000
namespace Go.Proofs.YtdajgcgliidjbaaGreat
open Go.RowKit
theorem Tryz.infoPq : (Tryz.prog.info? 27).map (·.size) = some 5 := by kernel_rfl
theorem zero_pr (w : World) : (zeroValue 25).run Tryz.prog w = .ok (.agg (aggT noP)) w := by kernel_rfl
theorem zero_pq (w : World) : (zeroValue 27).run Tryz.prog w = .ok (.agg (tqT noQ)) w := by kernel_rfl
theorem Tryz.partsPq : (structParts Tryz.prog 27).map (fun q => (q.1.cells.toList, q.2)) = some ([.bool false, .string ⟨#[]⟩, .string ⟨#[]⟩, .string ⟨#[]⟩, .string ⟨#[]⟩], [(0, 1), (1, 2), (3, 2)]) := by kernel_rfl
theorem built_pq2 (x y : Pt) : Tryz.prog.built 27 [(1, .agg (aggT x)), (2, .agg (aggT y))] = some (tqT (false, x, y)) := by
 cases hq : structParts Tryz.prog 27 with
 | none => have e := Tryz.partsPq; rw [hq] at e; cases e
 | some q =>
  obtain ⟨zz, pl⟩ := q
  have e := Tryz.partsPq
  rw [hq] at e
  simp only [Option.map_some, Option.some.injEq, Prod.mk.injEq] at e
  obtain ⟨e1, rfl⟩ := e
  rw [built_parts hq]
  have ez : zz.cells = #[.bool false] ++ #[.string ⟨#[]⟩, .string ⟨#[]⟩] ++ #[.string ⟨#[]⟩, .string ⟨#[]⟩] := Array.ext' (by rw [e1]; rfl)
  rw [ez, fill_step (R := aggT x) (off := 1) (n := 2) rfl rfl rfl rfl rfl]
  have e2 : (#[.bool false] ++ aggT x ++ #[.string ⟨#[]⟩, .string ⟨#[]⟩] : Array Value) = #[.bool false, .string x.1, .string x.2] ++ #[.string ⟨#[]⟩, .string ⟨#[]⟩] ++ #[] := rfl
  rw [e2, fill_step (R := aggT y) (off := 3) (n := 2) rfl rfl rfl rfl rfl]
  rfl
theorem built_pq0 : Tryz.prog.built 27 [] = some (tqT noQ) := by
 cases hq : structParts Tryz.prog 27 with
 | none => have e := Tryz.partsPq; rw [hq] at e; cases e
 | some q =>
  obtain ⟨zz, pl⟩ := q
  have e := Tryz.partsPq
  rw [hq] at e
  simp only [Option.map_some, Option.some.injEq, Prod.mk.injEq] at e
  obtain ⟨e1, rfl⟩ := e
  rw [built_parts hq]
  have ez : zz.cells = tqT noQ := Array.ext' (by rw [e1]; rfl)
  rw [ez]
  rfl
def cvE (q : ByteArray × ByteArray × ByteArray × ByteArray × Pt × Int × Int × Bool) : Array Value := #[.string q.1, .string q.2.1, .string q.2.2.1, .string q.2.2.2.1, .string q.2.2.2.2.1.1, .string q.2.2.2.2.1.2, .int .i64 q.2.2.2.2.2.1, .int .i64 q.2.2.2.2.2.2.1, .bool q.2.2.2.2.2.2.2]
theorem cvE_eq (id : Int) : cvC id = cvE (cvNT id, cvPT id, cvRT id, cvBT id, cvKT id, cvSz id, cvSc id, cvBr id) := cvC_eq id
theorem zero_cv (w : World) : (zeroValue 35).run Tryz.prog w = .ok (.agg (cvE (⟨#[]⟩, ⟨#[]⟩, ⟨#[]⟩, ⟨#[]⟩, noP, 0, 0, false))) w := by kernel_rfl
theorem eq_pr {ops : Array Oper} {S : World → Prop} {o : Oper} {a : Act} (hw : Region.wanted o (yielded ops a.tmps) = true) (x y : Operand) (ho : o.op = .binOp .eql 25 x y 25) (s t : Pt) (b : Bool) (hb : decide (s = t) = b)
  (hx : a.eval x = .agg (aggT s)) (hy : a.eval y = .agg (aggT t)) : YieldsIf Tryz.prog ops S o (.bool b) a := by
 refine .inl ⟨hw, fun w _ => ?_⟩
 unfold aggT at hx hy
 unfold execOp
 simp only [ho, hx, hy]
 go_simp
 subst hb
 by_cases h0 : s.1 = t.1
 ·skip
  by_cases h1 : s.2 = t.2
  ·skip
   have e : s = t := Prod.ext h0 h1
   obtain rfl := e
   simp
  ·have e : s ≠ t := fun e => h1 (by rw [e])
   have k1 : ¬ s.2.toList = t.2.toList := fun q => h1 (wk_bl.1 q)
   simp [h0, k1, e]
 ·have e : s ≠ t := fun e => h0 (by rw [e])
  have k1 : ¬ s.1.toList = t.1.toList := fun q => h0 (wk_bl.1 q)
  simp [k1, e]
end Go.Proofs.YtdajgcgliidjbaaGreat

import Derived.Test.YtejmogdognenmaaGreatJPairF
import Derived.Test.YtejmogdognenmaaGreatUDraw
import Derived.Test.YtejmogdognenmaaGreatXPairs
namespace Go.Proofs.YtejmogdognenmaaGreat
open Go.RowKit
section
variable {P : Program} {ops : Array Oper} {Q : Exit → Act → World → Prop} {S : World → Prop}
theorem wpOps_of_seq : ∀ (sched : List (Bool × Nat)) (a : Act) (w : World), (sched.all fun s => Nat.blt s.2 ops.size) = true → S w → seqH P ops Q S (fun a' w' => Q .normal a' w') sched a w → wpOps P ops Q (sched.map (·.2)) a w
  | [], a, w, _, _, h => h
  | (t, i) :: r, a, w, hb, hS, h => by
    simp only [List.all_cons, Bool.and_eq_true] at hb
    have hi : i < ops.size := Nat.blt_eq.mp hb.1
    rw [List.map_cons, wpOps_cons]
    cases t with
    | true =>
      obtain ⟨v, hy, h⟩ := h
      exact hy.wpOp (oAt_some hi) hS (wpOps_of_seq r _ _ hb.2 hS h)
    | false => exact wpOp_mono (fun a' w' h' => wpOps_of_seq r a' w' hb.2 h'.1 h'.2) h
/-- A guarded operation is wanted, by its guard's slot. -/
theorem wanted_by {i g : Nat} {b : Bool} {d : Tmp} {a : Act} (hg : (oAt ops i).guard = some (g, b)) (hs : Nat.blt g ops.size = true) (hd : (oAt ops g).dst = some d) (he : a.eval (.tmp d) = .bool b) : Region.wanted (oAt ops i) (yielded ops a.tmps) = true := by
  have ho := oAt_some (Nat.blt_eq.mp hs)
  have e : a.tmps[d]? = some (.bool b) := by
    have he' : a.tmps.getD d undef = .bool b := he
    rw [Array.getD_eq_getD_getElem?] at he'
    cases hq : a.tmps[d]? with
    | none => rw [hq] at he'; cases he'
    | some v => rw [hq] at he'; exact congrArg some he'
  unfold Region.wanted yielded
  rw [hg]
  simp only [ho, Option.bind_some, hd, e]
  simp
/-- A region that keeps its order. -/
theorem wp_region_line {id : Nat} {a : Act} {w : World} (sched : List (Bool × Nat)) (hn : sched.map (·.2) = List.range ops.size) (hb : (sched.all fun s => Nat.blt s.2 ops.size) = true) (hS : S w) (h : seqH P ops Q S (fun a' w' => Q .normal a' w') sched a w) : (Code.region id ops false).wp P Q a w := by
  refine wp_region ?_
  rw [← hn]
  exact wpOps_of_seq sched a w hb hS h
/-- The walk behind a structure: it does not unfold by itself. -/
structure SQ (P : Program) (ops : Array Oper) (Q : Exit → Act → World → Prop) (S : World → Prop) (K : Act → World → Prop) (sc : List (Bool × Nat)) (a : Act) (w : World) : Prop where
  out : seqH P ops Q S K sc a w
variable {K : Act → World → Prop} {i : Nat} {r : List (Bool × Nat)} {a : Act} {w : World}
theorem g_take (d : Option Tmp) (v : Value) (hd : (oAt ops i).dst = d) (hy : YieldsIf P ops S (oAt ops i) v a) (k : SQ P ops Q S K r (a.put d v) w) : SQ P ops Q S K ((true, i) :: r) a w := ⟨sq_take d v hd hy k.out⟩
theorem g_pure (d : Option Tmp) (v : Value) (hd : (oAt ops i).dst = d) (hw : Region.wanted (oAt ops i) (yielded ops a.tmps) = true) (hv : ∀ w', (execOp a.eval (oAt ops i)).run P w' = .ok (.value v) w') (k : SQ P ops Q S K r (a.put d v) w) : SQ P ops Q S K ((true, i) :: r) a w := ⟨sq_pure d v hd hw hv k.out⟩
theorem g_held (d : Option Tmp) (v : Value) (hd : (oAt ops i).dst = d) (hw : Region.wanted (oAt ops i) (yielded ops a.tmps) = true) (hv : ∀ w', S w' → (execOp a.eval (oAt ops i)).run P w' = .ok (.value v) w') (k : SQ P ops Q S K r (a.put d v) w) : SQ P ops Q S K ((true, i) :: r) a w := ⟨sq_held d v hd hw hv k.out⟩
theorem g_fn {f : FuncId} {fn : Func} (d : Option Tmp) (vs : List Value) (hf : P.funcs[f]? = some fn) (hname : (fn.name == "runtime.NumGoroutine") = false) (hb : fn.body.isSome = true) (hd : (oAt ops i).dst = d) (hi : Nat.blt i ops.size = true) (hw : Region.wanted (oAt ops i) (yielded ops a.tmps) = true)
    (ho : (callOf (oAt ops i).op).map (fun p => (p.1, p.2.map a.eval)) = some (f, vs))
    (H : Calls P f vs.toArray w fun e w' => ∃ v, e = .returned v ∧ S w' ∧ SQ P ops Q S K r (a.put d v) w') : SQ P ops Q S K ((false, i) :: r) a w :=
  ⟨sq_fn d vs hf hname hb hd hi hw ho (Calls.mono H fun _ _ ⟨v, h1, h2, h3⟩ => ⟨v, h1, h2, h3.out⟩)⟩
theorem g_done (k : K a w) : SQ P ops Q S K [] a w := ⟨k⟩
/-- The frame, written out anew. -/
theorem g_norm (a' : Act) (h : a = a') (k : SQ P ops Q S K r a' w) : SQ P ops Q S K r a w := by rw [h]; exact k
end
theorem built_pair0 : Tryz.prog.built 25 [] = some (aggT noP) := by
  cases hq : structParts Tryz.prog 25 with
  | none => have e := Tryz.partsPair; rw [hq] at e; cases e
  | some q =>
    obtain ⟨z, pl⟩ := q
    have e := Tryz.partsPair
    rw [hq] at e
    simp only [Option.map_some, Option.some.injEq, Prod.mk.injEq] at e
    obtain ⟨e1, rfl⟩ := e
    rw [built_parts hq, Instr.fill]
    exact congrArg some (Array.ext' e1)
theorem built_pairB (b : ByteArray) : Tryz.prog.built 25 [(1, .string b)] = some (aggT (⟨#[]⟩, b)) := by
  cases hq : structParts Tryz.prog 25 with
  | none => have e := Tryz.partsPair; rw [hq] at e; cases e
  | some q =>
    obtain ⟨z, pl⟩ := q
    have e := Tryz.partsPair
    rw [hq] at e
    simp only [Option.map_some, Option.some.injEq, Prod.mk.injEq] at e
    obtain ⟨e1, rfl⟩ := e
    rw [built_parts hq]
    have ez : z.cells = #[.string ⟨#[]⟩] ++ #[.string ⟨#[]⟩] ++ #[] := Array.ext' (by rw [e1]; rfl)
    rw [ez, fill_step (R := #[.string b]) (off := 1) (n := 1) rfl rfl rfl rfl rfl]
    simp [Instr.fill, aggT]
/-- The end of a walk: a flag as result. -/
theorem ret_bool {fn : Func} {t : Tmp} {R : Ending → World → Prop} {a : Act} {w : World} {b : Bool} (hf : fn.results = #[.tmp t]) (ht : a.tmps.getD t undef = .bool b) (hd : a.defers = []) (hR : R (.returned (.bool b)) w) : bodyPost Tryz.prog fn R .ret a w :=
  bodyPost_ret (results_tmp hf _ _ _) hd (by rw [ht]; exact hR)
theorem wanted_no {ops : Array Oper} {i g : Nat} {b : Bool} {d : Tmp} {a : Act} (hg : (oAt ops i).guard = some (g, b)) (hs : Nat.blt g ops.size = true) (hd : (oAt ops g).dst = some d) (he : a.eval (.tmp d) = .bool (!b)) : Region.wanted (oAt ops i) (yielded ops a.tmps) = false := by
  have ho := oAt_some (Nat.blt_eq.mp hs)
  have e : a.tmps[d]? = some (.bool (!b)) := by
    have he' : a.tmps.getD d undef = .bool (!b) := he
    rw [Array.getD_eq_getD_getElem?] at he'
    cases hq : a.tmps[d]? with
    | none => rw [hq] at he'; cases he'
    | some v => rw [hq] at he'; exact congrArg some he'
  unfold Region.wanted yielded
  rw [hg]
  simp only [ho, Option.bind_some, hd, e]
  cases b <;> rfl
theorem g_skip {P : Program} {ops : Array Oper} {Q : Exit → Act → World → Prop} {S : World → Prop} {K : Act → World → Prop} {i : Nat} {r : List (Bool × Nat)} {a : Act} {w : World} (d : Option Tmp) (hd : (oAt ops i).dst = d) (hw : Region.wanted (oAt ops i) (yielded ops a.tmps) = false) (k : SQ P ops Q S K r (a.put d undef) w) : SQ P ops Q S K ((true, i) :: r) a w := ⟨sq_skip d hd hw k.out⟩
end Go.Proofs.YtejmogdognenmaaGreat

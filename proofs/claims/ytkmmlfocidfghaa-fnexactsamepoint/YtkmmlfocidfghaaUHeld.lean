import Derived.Test.YtkmmlfocidfghaaUOps
namespace Go.Proofs.Ytkmmlfocidfghaa
open Go.RowKit
/-- Each of these blocks holds just these cells. -/
def Held (w : World) (l : List (Nat × Array Value × TypeId)) : Prop := ∀ q ∈ l, w.heap[q.1]? = some (.cells q.2.1 q.2.2 (0, 0))
theorem Held.on {w w' : World} {l : List (Nat × Array Value × TypeId)} (h : Held w l) (b : Below w.heap.size w w') : Held w' l := fun q hq => (b.block _ (Array.getElem?_eq_some_iff.1 (h q hq)).1).trans (h q hq)
theorem Held.apart {w : World} {l : List (Nat × Array Value × TypeId)} (h : Held w l) : ∀ q ∈ l, q.1 ≠ w.heap.size := fun q hq e => by
  have := (Array.getElem?_eq_some_iff.1 (h q hq)).1
  omega
theorem Held.tail {w : World} {q : Nat × Array Value × TypeId} {l : List (Nat × Array Value × TypeId)} (h : Held w (q :: l)) : Held w l := fun r hr => h r (List.mem_cons_of_mem _ hr)
theorem Held.cons {w : World} {g : Nat} {C : Array Value} {t : TypeId} {l : List (Nat × Array Value × TypeId)} (h : Held w l) (hg : w.heap[g]? = some (.cells C t (0, 0))) : Held w ((g, C, t) :: l) := fun q hq => by
  rcases List.mem_cons.1 hq with rfl | hq
  · exact hg
  · exact h q hq
theorem Held.none (w : World) : Held w [] := fun q hq => by cases hq
theorem Held.put {w : World} {l : List (Nat × Array Value × TypeId)} {g : Nat} {C : Array Value} {t : TypeId} (h : Held w l) (ap : ∀ q ∈ l, q.1 ≠ g) (hg : w.heap[g]? = some (.cells C t (0, 0))) (C' : Array Value) : Held (w.setRow g C') ((g, C', t) :: l) :=
  Held.cons (fun q hq => (setRow_other _ _ _ _ (ap q hq)).trans (h q hq)) (setRow_heap _ _ _ _ _ _ hg)
/-- A struct laid into a variable made new. -/
theorem Held.new {w : World} {l : List (Nat × Array Value × TypeId)} (h : Held w l) (C C' : Array Value) (t : TypeId) : Held ((w.alloc (.cells C t)).setRow w.heap.size C') ((w.heap.size, C', t) :: l) ∧ Below w.heap.size w ((w.alloc (.cells C t)).setRow w.heap.size C') :=
  ⟨(h.on ((Below.refl _ _).alloc (Nat.le_refl _) _)).put h.apart (heap_alloc_new w _) C', below_setRow2 ((Below.refl _ _).alloc (Nat.le_refl _) _) (Nat.le_refl _) _⟩
theorem yields_g {P : Program} {ops : Array Oper} {S : World → Prop} {o : Oper} {v : Value} {a : Act} (hw : Region.wanted o (yielded ops a.tmps) = true) (h : ∀ w, S w → (execOp a.eval o).run P w = .ok (.value v) w) : YieldsIf P ops S o v a := .inl ⟨hw, h⟩
theorem yields_P {ops : Array Oper} {S : World → Prop} {o : Oper} {a : Act} (hw : Region.wanted o (yielded ops a.tmps) = true) (x : Operand) (ho : o.op = .load 37 x) (g : Nat) (z : Pt)
    (hx : a.eval x = .pointer (some ⟨g, 0, none⟩)) (h : ∀ w, S w → w.heap[g]? = some (.cells (aggT z) 37 (0, 0))) : YieldsIf Try.prog ops S o (.agg (aggT z)) a := by
  refine .inl ⟨hw, fun w hs => ?_⟩
  unfold execOp
  simp only [ho, hx]
  have e : (Instr.loadAt 37 (.pointer (some ⟨g, 0, none⟩))).run Try.prog w = .ok (.agg (aggT z)) w := by
    simp only [Instr.loadAt, Instr.sureAddr, Sem.run_bind, Sem.run_pure, Result.andThen_ok]
    exact run_loadVar_row w g _ _ _ _ _ (h w hs) Try.underlying37 rfl Try.infoP
  simp [e]
set_option maxRecDepth 8000 in
theorem yields_eqP {ops : Array Oper} {S : World → Prop} {o : Oper} {a : Act} (hw : Region.wanted o (yielded ops a.tmps) = true) (x y : Operand) (ho : o.op = .binOp .eql 37 x y 37) (z : Pt)
    (hx : a.eval x = .agg #[.string z.1, .string z.2]) (hy : a.eval y = .agg #[.string z.1, .string z.2]) : YieldsIf Try.prog ops S o (.bool true) a := by
  refine .inl ⟨hw, fun w _ => ?_⟩
  unfold execOp
  simp only [ho, hx, hy]
  go_simp
end Go.Proofs.Ytkmmlfocidfghaa

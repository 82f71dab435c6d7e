import Derived.Test.YtkmmlfocidfghaaGreatZTimes
import Derived.Test.YtkmmlfocidfghaaGreatZLaw
/-
  Functions over pairs, by kinds: that spec's l12Twice and l12More hand back a point in three pairs, whatever order is drawn; no more is said of it.
-/
namespace Go.Proofs.YtkmmlfocidfghaaGreat
open Go.RowKit
/-! What a slot holds, told by a number: 1 the prime's row; 2 a pair; 3 where a pair lies; 4 a variable of one; 5 where three pairs lie; 6 where a point of two lies; 7 three pairs; 8 a flag; 9 the result's block; 10 the row of one; else anything. -/
section
variable (n : Nat) (vp : Value) (w0 : World) (o : Nat)
def PIn (w : World) (v : Value) : Prop := ∃ X, PairX w v X ∧ InP2 n X
def Loc (w : World) (g k : Nat) : Prop := ∃ (C : Array Value) (t : TypeId) (a b : Value), w.heap[g]? = some (.cells C t (0, 0)) ∧ C[k]? = some a ∧ C[k + 1]? = some b ∧ PIn n w (.agg #[a, b]) ∧ t ≠ 56 ∧ g ≠ o
def Own (w : World) (g : Nat) : Prop := ∃ C, w.heap[g]? = some (.cells C 56 (0, 0)) ∧ w0.heap.size ≤ g ∧ PIn n w (.agg C)
def JIn (w : World) (v : Value) : Prop := ∃ J, JacX w v J ∧ InJ n J
def JBlk (w : World) (g : Nat) : Prop := ∃ C, w.heap[g]? = some (.cells C 125 (0, 0)) ∧ JIn n w (.agg C) ∧ g ≠ o
def HasK (w : World) (k : Nat) (v : Value) : Prop :=
  (k = 1 → v = vp) ∧ (k = 2 → PIn n w v) ∧ (k = 3 → ∃ g i, v = .pointer (some ⟨g, i, none⟩) ∧ Loc n o w g i) ∧ (k = 4 → ∃ g, v = .pointer (some ⟨g, 0, none⟩) ∧ Own n w0 w g) ∧ (k = 5 → ∃ g, v = .pointer (some ⟨g, 0, none⟩) ∧ JBlk n o w g) ∧
  (k = 6 → ∃ g, v = .pointer (some ⟨g, 0, none⟩) ∧ Loc n o w g 1 ∧ Loc n o w g 3) ∧ (k = 7 → JIn n w v) ∧ (k = 8 → ∃ b, v = .bool b) ∧ (k = 9 → v = .pointer (some ⟨o, 0, none⟩)) ∧ (k = 10 → ∃ A i c, v = .slice A i c ∧ RowX w v 1)
/-- The world beside. -/
structure WI (s : Bool) (w : World) : Prop where
  b : Below w0.heap.size w0 w
  p : RowX w vp n
  out : ∃ C, w.heap[o]? = some (.cells C 125 (0, 0)) ∧ C.size = 6 ∧ (s = true → JIn n w (.agg C))
  ho : w0.heap.size ≤ o
end
section
variable {n : Nat} {vp : Value} {w0 : World} {o : Nat}
theorem PIn.below {w w' : World} {v : Value} (h : PIn n w v) (b : Below w.heap.size w w') : PIn n w' v := by obtain ⟨X, h1, h2⟩ := h; exact ⟨X, h1.below b, h2⟩
theorem PIn.setRow {w : World} {v : Value} {g : Nat} {C C' : Array Value} {t : TypeId} (h : PIn n w v) (hg : w.heap[g]? = some (.cells C t (0, 0))) (ht : t ≠ 3) : PIn n (w.setRow g C') v := by obtain ⟨X, h1, h2⟩ := h; exact ⟨X, h1.setRow hg ht, h2⟩
theorem JIn.below {w w' : World} {v : Value} (h : JIn n w v) (b : Below w.heap.size w w') : JIn n w' v := by obtain ⟨X, h1, h2⟩ := h; exact ⟨X, h1.below b, h2⟩
theorem JIn.setRow {w : World} {v : Value} {g : Nat} {C C' : Array Value} {t : TypeId} (h : JIn n w v) (hg : w.heap[g]? = some (.cells C t (0, 0))) (ht : t ≠ 3) : JIn n (w.setRow g C') v := by obtain ⟨X, h1, h2⟩ := h; exact ⟨X, h1.setRow hg ht, h2⟩
theorem Loc.below {w w' : World} {g k : Nat} (h : Loc n o w g k) (b : Below w.heap.size w w') : Loc n o w' g k := by
  obtain ⟨C, t, x, y, h1, h2, h3, h4, h5⟩ := h
  exact ⟨C, t, x, y, stays b h1, h2, h3, h4.below b, h5⟩
theorem Own.below {w w' : World} {g : Nat} (h : Own n w0 w g) (b : Below w.heap.size w w') : Own n w0 w' g := by
  obtain ⟨C, h1, h2, h3⟩ := h
  exact ⟨C, stays b h1, h2, h3.below b⟩
theorem JBlk.below {w w' : World} {g : Nat} (h : JBlk n o w g) (b : Below w.heap.size w w') : JBlk n o w' g := by
  obtain ⟨C, h1, h2, h3⟩ := h
  exact ⟨C, stays b h1, h2.below b, h3⟩
theorem hasK_below {w w' : World} {k : Nat} {v : Value} (h : HasK n vp w0 o w k v) (b : Below w.heap.size w w') : HasK n vp w0 o w' k v := by
  obtain ⟨h1, h2, h3, h4, h5, h6, h7, h8, h9, h10⟩ := h
  refine ⟨h1, fun e => (h2 e).below b, fun e => ?_, fun e => ?_, fun e => ?_, fun e => ?_, fun e => (h7 e).below b, h8, h9, fun e => ?_⟩
  · obtain ⟨g, i, q, l⟩ := h3 e; exact ⟨g, i, q, l.below b⟩
  · obtain ⟨g, q, l⟩ := h4 e; exact ⟨g, q, l.below b⟩
  · obtain ⟨g, q, l⟩ := h5 e; exact ⟨g, q, l.below b⟩
  · obtain ⟨g, q, l, m⟩ := h6 e; exact ⟨g, q, l.below b, m.below b⟩
  · obtain ⟨A, i, c, q, r⟩ := h10 e; exact ⟨A, i, c, q, r.below b⟩
/-- A block of such a type written, of which what stands does not hang. -/
theorem hasK_put {w : World} {k g : Nat} {v : Value} {C C' : Array Value} {t : TypeId} (h : HasK n vp w0 o w k v) (hg : w.heap[g]? = some (.cells C t (0, 0))) (ht : t ≠ 3) (hc : (t = 56 ∧ PIn n w (.agg C')) ∨ g = o) (hO : ∃ C, w.heap[o]? = some (.cells C 125 (0, 0))) : HasK n vp w0 o (w.setRow g C') k v := by
  obtain ⟨h1, h2, h3, h4, h5, h6, h7, h8, h9, h10⟩ := h
  have loc : ∀ {g' i}, Loc n o w g' i → Loc n o (w.setRow g C') g' i := fun {g' i} l => by
    obtain ⟨C1, t1, x, y, q1, q2, q3, q4, q5, q6⟩ := l
    have hne : g' ≠ g := fun e => by
      subst e
      rcases hc with ⟨e, _⟩ | e
      · rw [q1] at hg
        have : t1 = t := by injection hg with hg; injection hg
        exact q5 (this.trans e)
      · exact q6 e
    exact ⟨C1, t1, x, y, (setRow_other _ _ _ _ hne).trans q1, q2, q3, q4.setRow hg ht, q5, q6⟩
  refine ⟨h1, fun e => (h2 e).setRow hg ht, fun e => ?_, fun e => ?_, fun e => ?_, fun e => ?_, fun e => (h7 e).setRow hg ht, h8, h9, fun e => ?_⟩
  · obtain ⟨g1, i, q, l⟩ := h3 e; exact ⟨g1, i, q, loc l⟩
  · obtain ⟨g1, q, C1, q1, q2, q3⟩ := h4 e
    refine ⟨g1, q, ?_⟩
    by_cases he : g1 = g
    · subst he
      rcases hc with ⟨e2, hp⟩ | e2
      · subst e2
        exact ⟨C', setRow_heap _ _ _ _ _ _ hg, q2, hp.setRow hg ht⟩
      · exfalso
        obtain ⟨C2, hO⟩ := hO
        rw [e2, hO] at q1
        injection q1 with q1
        injection q1 with _ q1
        revert q1; decide
    · exact ⟨C1, (setRow_other _ _ _ _ he).trans q1, q2, q3.setRow hg ht⟩
  · obtain ⟨g1, q, C1, q1, q2, q3⟩ := h5 e
    have hne : g1 ≠ g := fun e => by
      subst e
      rcases hc with ⟨e, _⟩ | e
      · rw [q1] at hg
        injection hg with hg
        injection hg with _ hg
        rw [e] at hg
        revert hg; decide
      · exact q3 e
    exact ⟨g1, q, C1, (setRow_other _ _ _ _ hne).trans q1, q2.setRow hg ht, q3⟩
  · obtain ⟨g1, q, l, m⟩ := h6 e; exact ⟨g1, q, loc l, loc m⟩
  · obtain ⟨A, i, c, q, r⟩ := h10 e; exact ⟨A, i, c, q, r.setRow hg ht⟩
theorem WI.below {s : Bool} {w w' : World} (h : WI n vp w0 o s w) (b : Below w.heap.size w w') : WI n vp w0 o s w' := by
  obtain ⟨h1, h2, ⟨C, h3, h4, h5⟩, h6⟩ := h
  exact ⟨bt h1 b, h2.below b, ⟨C, stays b h3, h4, fun e => (h5 e).below b⟩, h6⟩
theorem WI.own {s : Bool} {w : World} {g : Nat} {C C' : Array Value} (h : WI n vp w0 o s w) (hg : w.heap[g]? = some (.cells C 56 (0, 0))) (hb : w0.heap.size ≤ g) : WI n vp w0 o s (w.setRow g C') := by
  obtain ⟨h1, h2, ⟨D, h3, h4, h5⟩, h6⟩ := h
  have hne : o ≠ g := fun e => by
    subst e
    rw [h3] at hg
    injection hg with hg
    injection hg with _ hg
    revert hg; decide
  exact ⟨below_setRow2 h1 hb _, h2.setRow hg (by decide), ⟨D, (setRow_other _ _ _ _ hne).trans h3, h4, fun e => (h5 e).setRow hg (by decide)⟩, h6⟩
theorem WI.res {s : Bool} {w : World} {C' : Array Value} (h : WI n vp w0 o s w) (hj : JIn n w (.agg C')) (hs : C'.size = 6) : WI n vp w0 o true (w.setRow o C') := by
  obtain ⟨h1, h2, ⟨D, h3, h4, h5⟩, h6⟩ := h
  exact ⟨below_setRow2 h1 h6 _, h2.setRow h3 (by decide), ⟨C', setRow_heap _ _ _ _ _ _ h3, hs, fun _ => hj.setRow h3 (by decide)⟩, h6⟩
/-! Kinds of operations. -/
def rd (G : List Nat) : Operand → Nat
  | .tmp x => G.getD x 0
  | _ => 0
def tyOp (tw : Bool) (G : List Nat) : Op → Option Nat
  | .load t x => if t == 56 && (rd G x == 3 || rd G x == 4) then some 2 else if t == 125 && rd G x == 5 then some 7 else none
  | .fieldAddr t x i => if t == 125 && rd G x == 5 && Nat.blt i 3 then some 3 else if t == 58 && rd G x == 6 && (i == 1 || i == 2) then some 3 else none
  | .move x => some (rd G x)
  | .alloc t => if t == 56 then some 4 else none
  | .store t x y => if t == 56 && rd G x == 4 && rd G y == 2 then some 0 else if t == 125 && rd G x == 9 && rd G y == 7 then some 0 else none
  | .build t parts => match parts.toList with
    | [] => if t == 125 then some 7 else none
    | [(0, x)] => if t == 56 && rd G x == 10 then some 2 else none
    | [(0, x), (1, y), (2, z)] => if t == 125 && rd G x == 2 && rd G y == 2 && rd G z == 2 then some 7 else none
    | _ => none
  | .buildSlice t c parts => match parts.toList with
    | [(0, .const (.int .i64 z))] => if t == 54 && c == 1 && z == 1 then some 10 else none
    | _ => none
  | .call c => match callOf (.call c) with
    | some (f, [x, y, z]) => if (f == 59 || f == 89 || f == 153) && rd G x == 2 && rd G y == 2 && rd G z == 1 then some 2 else none
    | some (f, [x]) => if f == 138 && rd G x == 2 then some 8 else none
    | some (f, [x, y]) => if tw && f == 140 && rd G x == 7 && rd G y == 1 then some 7 else none
    | _ => none
  | _ => none
def outS : Op → Bool
  | .store t _ _ => t == 125
  | _ => false
def opL : Op → List Operand
  | .load _ x => [x]
  | .fieldAddr _ x _ => [x]
  | .move x => [x]
  | .store _ x y => [x, y]
  | .build _ parts => parts.toList.map (·.2)
  | .call c => match callOf (.call c) with
    | some (_, xs) => xs
    | _ => []
  | _ => []
theorem op_run {o' : Oper} {a : Act} {w w' : World} {v : Value} {K : Act → World → Prop} {Q : Exit → Act → World → Prop} (e : (execOp a.eval o').run Tryz.prog w = .ok (.value v) w') (k : K (a.put o'.dst v) w') : o'.wp Tryz.prog a w K Q := by
  unfold Oper.wp
  rw [e, Oper.upon_value]
  exact k
theorem op_call {o' : Oper} {a : Act} {w : World} {f : FuncId} {fn : Func} {vs : List Value} {K : Act → World → Prop} {Q : Exit → Act → World → Prop} (hf : Tryz.prog.funcs[f]? = some fn) (h1 : (fn.name == "runtime.NumGoroutine", fn.body.isSome) = (false, true)) (ho : (callOf o'.op).map (fun p => (p.1, p.2.map a.eval)) = some (f, vs))
    (C : Calls Tryz.prog f vs.toArray w fun e w' => ∃ v, e = .returned v ∧ K (a.put o'.dst v) w') : o'.wp Tryz.prog a w K Q := by
  simp only [Prod.mk.injEq] at h1
  unfold Oper.wp
  rw [run_callOf hf h1.1 h1.2 ho, Oper.upon_enter]
  refine Calls.mono C ?_
  rintro e w' ⟨v, rfl, h⟩
  exact h
theorem hasK_of {w : World} {k : Nat} {v : Value} (h1 : k = 2 → PIn n w v) (h3 : k = 3 → ∃ g i, v = .pointer (some ⟨g, i, none⟩) ∧ Loc n o w g i) (h4 : k = 4 → ∃ g, v = .pointer (some ⟨g, 0, none⟩) ∧ Own n w0 w g) (h7 : k = 7 → JIn n w v) (h8 : k = 8 → ∃ b, v = .bool b) (h10 : k = 10 → ∃ A i c, v = .slice A i c ∧ RowX w v 1) (hk : k ∈ [0, 2, 3, 4, 7, 8, 10]) : HasK n vp w0 o w k v := by
  refine ⟨fun e => ?_, h1, h3, h4, fun e => ?_, fun e => ?_, h7, h8, fun e => ?_, h10⟩ <;> (subst e; exact absurd hk (by decide))
theorem nope {a b : Nat} {p : Prop} (h : Nat.beq a b = false) (e : a = b) : p := by
  subst e
  rw [Nat.beq_refl] at h
  cases h
theorem k2 {w : World} {v : Value} (h : PIn n w v) : HasK n vp w0 o w 2 v := hasK_of (fun _ => h) (nope rfl) (nope rfl) (nope rfl) (nope rfl) (nope rfl) (by decide)
theorem k3 {w : World} {g i : Nat} (h : Loc n o w g i) : HasK n vp w0 o w 3 (.pointer (some ⟨g, i, none⟩)) := hasK_of (nope rfl) (fun _ => ⟨g, i, rfl, h⟩) (nope rfl) (nope rfl) (nope rfl) (nope rfl) (by decide)
theorem k4 {w : World} {g : Nat} (h : Own n w0 w g) : HasK n vp w0 o w 4 (.pointer (some ⟨g, 0, none⟩)) := hasK_of (nope rfl) (nope rfl) (fun _ => ⟨g, rfl, h⟩) (nope rfl) (nope rfl) (nope rfl) (by decide)
theorem k7 {w : World} {v : Value} (h : JIn n w v) : HasK n vp w0 o w 7 v := hasK_of (nope rfl) (nope rfl) (nope rfl) (fun _ => h) (nope rfl) (nope rfl) (by decide)
theorem k8 {w : World} (b : Bool) : HasK n vp w0 o w 8 (.bool b) := hasK_of (nope rfl) (nope rfl) (nope rfl) (nope rfl) (fun _ => ⟨b, rfl⟩) (nope rfl) (by decide)
theorem k10 {w : World} {A : Option Addr} {i c : Nat} (h : RowX w (.slice A i c) 1) : HasK n vp w0 o w 10 (.slice A i c) := hasK_of (nope rfl) (nope rfl) (nope rfl) (nope rfl) (nope rfl) (fun _ => ⟨A, i, c, rfl, h⟩) (by decide)
theorem k0 {w : World} {v : Value} : HasK n vp w0 o w 0 v := hasK_of (nope rfl) (nope rfl) (nope rfl) (nope rfl) (nope rfl) (nope rfl) (by decide)
theorem JIn.locs {w : World} {g : Nat} (h : JBlk n o w g) : Loc n o w g 0 ∧ Loc n o w g 2 ∧ Loc n o w g 4 := by
  obtain ⟨C, h1, ⟨J, ⟨x1, x2, y1, y2, z1, z2, e, p1, p2, p3⟩, i1, i2, i3⟩, h3⟩ := h
  injection e with e
  subst e
  exact ⟨⟨_, _, x1, x2, h1, rfl, rfl, ⟨_, p1, i1⟩, by decide, h3⟩, ⟨_, _, y1, y2, h1, rfl, rfl, ⟨_, p2, i2⟩, by decide, h3⟩, ⟨_, _, z1, z2, h1, rfl, rfl, ⟨_, p3, i3⟩, by decide, h3⟩⟩
theorem PIn.arr {w : World} {C : Array Value} (h : PIn n w (.agg C)) : C.size = 2 ∧ C.all (·.oneCell') = true := by obtain ⟨X, h, _⟩ := h; exact h.arr
theorem PIn.two {w : World} {v : Value} (h : PIn n w v) : ∃ a b, v = .agg #[a, b] := by obtain ⟨X, ⟨a, b, e, _⟩, _⟩ := h; exact ⟨a, b, e⟩
theorem nil_in (h0 : 0 < n) (w : World) : PIn n w (.agg #[.slice none 0 0, .slice none 0 0]) := ⟨(0, 0), ⟨_, _, rfl, row_nil w, row_nil w⟩, h0, h0⟩
set_option maxRecDepth 8000 in
set_option maxHeartbeats 4000000 in
theorem op_ok {tw : Bool} {G : List Nat} {o' : Oper} {a : Act} {w : World} {s : Bool} {k : Nat} {K : Act → World → Prop} {Q : Exit → Act → World → Prop} (hn1 : 1 < n) (hnG : n < GB) (HT : tw = true → ∀ v w, JIn n w v → RowX w vp n → Calls Tryz.prog 140 #[v, vp] w fun e w' => ∃ v', e = .returned v' ∧ JIn n w' v' ∧ Below w.heap.size w w')
    (ht : tyOp tw G o'.op = some k) (hx : ∀ x ∈ opL o'.op, HasK n vp w0 o w (rd G x) (a.eval x)) (hw : WI n vp w0 o s w)
    (hk : ∀ v w', HasK n vp w0 o w' k v → (∀ k' v', HasK n vp w0 o w k' v' → HasK n vp w0 o w' k' v') → WI n vp w0 o (s || outS o'.op) w' → K (a.put o'.dst v) w') : o'.wp Tryz.prog a w K Q := by
  have h0 : 0 < n := by omega
  have same : ∀ v, HasK n vp w0 o w k v → outS o'.op = false → K (a.put o'.dst v) w := fun v h ho => hk v w h (fun _ _ h => h) (by rw [ho, Bool.or_false]; exact hw)
  have more : ∀ v w', Below w.heap.size w w' → HasK n vp w0 o w' k v → outS o'.op = false → K (a.put o'.dst v) w' := fun v w' b h ho => hk v w' h (fun _ _ h => hasK_below h b) (by rw [ho, Bool.or_false]; exact hw.below b)
  obtain ⟨op, hop⟩ : ∃ op, o'.op = op := ⟨_, rfl⟩
  rw [hop] at ht hx same more hk
  cases op <;> try (simp only [tyOp, reduceCtorEq] at ht; done)
  case load t x =>
    have H := hx x (by simp [opL])
    simp only [tyOp] at ht
    split at ht
    · rename_i hc
      simp only [Bool.and_eq_true, beq_iff_eq, Bool.or_eq_true] at hc
      obtain ⟨rfl, hc⟩ := hc
      injection ht with ht
      subst ht
      rcases hc with hc | hc
      · obtain ⟨g, i, ev, C, t', u, v, q1, q2, q3, q4, _⟩ := H.2.2.1 hc
        exact op_run (held_load (S := (· = w)) _ x hop _ _ ev (fun w' e => by subst e; exact mid_load7 q1 q2 q3) w rfl) (same _ (k2 q4) rfl)
      · obtain ⟨g, ev, C, q1, _, q3⟩ := H.2.2.2.1 hc
        exact op_run (held_load (S := (· = w)) _ x hop _ _ ev (fun w' e => by subst e; exact cells_load q1 Tryz.underlying56 rfl (by rw [q3.arr.1]; exact Tryz.info7)) w rfl) (same _ (k2 q3) rfl)
    · split at ht
      · rename_i hc
        simp only [Bool.and_eq_true, beq_iff_eq] at hc
        obtain ⟨rfl, hc⟩ := hc
        injection ht with ht
        subst ht
        obtain ⟨g, ev, C, q1, q2, _⟩ := H.2.2.2.2.1 hc
        have hs : C.size = 6 := by
          obtain ⟨J, hJ, _⟩ := q2
          obtain ⟨q, e, hs, _⟩ := hJ.q
          injection e with e
          rw [e]; exact hs
        exact op_run (held_load (S := (· = w)) _ x hop _ _ ev (fun w' e => by subst e; exact cells_load q1 Tryz.underlying125 rfl (by rw [hs]; exact Tryz.infoJac)) w rfl) (same _ (k7 q2) rfl)
      · cases ht
  case move x =>
    simp only [tyOp, Option.some.injEq] at ht
    subst ht
    have H := hx x (by simp [opL])
    refine op_run (v := a.eval x) (w' := w) ?_ (same _ H rfl)
    unfold execOp
    rw [hop]
    rfl
  case alloc t =>
    simp only [tyOp] at ht
    split at ht
    · rename_i hc
      obtain rfl := beq_iff_eq.1 hc
      injection ht with ht
      subst ht
      have b : Below w.heap.size w (w.alloc (.cells #[.slice none 0 0, .slice none 0 0] 56)) := (Below.refl _ _).alloc (Nat.le_refl _) _
      refine op_run (v := .pointer (some ⟨w.heap.size, 0, none⟩)) (w' := w.alloc (.cells #[.slice none 0 0, .slice none 0 0] 56)) ?_ (more _ _ b (k4 ⟨_, heap_alloc_new w _, hw.b.size, nil_in h0 _⟩) rfl)
      have hz := zero_7 w
      unfold execOp
      rw [hop]
      simp only
      unfold Instr.alloc
      simp [hz, newVar, newRow, Value.cells]
    · cases ht
  case fieldAddr t x i =>
    have H := hx x (by simp [opL])
    simp only [tyOp] at ht
    split at ht
    · rename_i hc
      simp only [Bool.and_eq_true, beq_iff_eq] at hc
      obtain ⟨⟨rfl, hc⟩, hi⟩ := hc
      injection ht with ht
      subst ht
      obtain ⟨g, ev, hJ⟩ := H.2.2.2.2.1 hc
      obtain ⟨l0, l2, l4⟩ := JIn.locs hJ
      have hi' := Nat.blt_eq.mp hi
      match i, hi' with
      | 0, _ =>
        refine op_run (v := .pointer (some ⟨g, 0, none⟩)) (w' := w) ?_ (same _ (k3 l0) rfl)
        unfold execOp; rw [hop]; simp only [ev]; kernel_rfl
      | 1, _ =>
        refine op_run (v := .pointer (some ⟨g, 2, none⟩)) (w' := w) ?_ (same _ (k3 l2) rfl)
        unfold execOp; rw [hop]; simp only [ev]; kernel_rfl
      | 2, _ =>
        refine op_run (v := .pointer (some ⟨g, 4, none⟩)) (w' := w) ?_ (same _ (k3 l4) rfl)
        unfold execOp; rw [hop]; simp only [ev]; kernel_rfl
    · split at ht
      · rename_i hc
        simp only [Bool.and_eq_true, beq_iff_eq, Bool.or_eq_true] at hc
        obtain ⟨⟨rfl, hc⟩, hi⟩ := hc
        injection ht with ht
        subst ht
        obtain ⟨g, ev, l1, l3⟩ := H.2.2.2.2.2.1 hc
        rcases hi with rfl | rfl
        · refine op_run (v := .pointer (some ⟨g, 1, none⟩)) (w' := w) ?_ (same _ (k3 l1) rfl)
          unfold execOp; rw [hop]; simp only [ev]; kernel_rfl
        · refine op_run (v := .pointer (some ⟨g, 3, none⟩)) (w' := w) ?_ (same _ (k3 l3) rfl)
          unfold execOp; rw [hop]; simp only [ev]; kernel_rfl
      · cases ht
  case store t x y =>
    have H := hx x (by simp [opL])
    have H' := hx y (by simp [opL])
    obtain ⟨D, hD1, hD2, _⟩ := hw.out
    simp only [tyOp] at ht
    split at ht
    · rename_i hc
      simp only [Bool.and_eq_true, beq_iff_eq] at hc
      obtain ⟨⟨rfl, hc⟩, hy⟩ := hc
      obtain ⟨g, ev, C, q1, q2, q3⟩ := H.2.2.2.1 hc
      have hp := H'.2.1 hy
      obtain ⟨u, v, ey⟩ := hp.two
      rw [ey] at hp
      injection ht with ht
      subst ht
      refine wp_store_row _ x y hop g _ ev ey _ _ q1 (by rw [hp.arr.1]; exact Tryz.info7) (by rw [q3.arr.1, hp.arr.1]) hp.arr.2 (hk undef _ k0 (fun k' v' h' => hasK_put h' q1 (by decide) (.inl ⟨rfl, hp⟩) ⟨D, hD1⟩) ?_)
      rw [show outS (.store 56 x y) = false from rfl, Bool.or_false]
      exact hw.own q1 q2
    · split at ht
      · rename_i hc
        simp only [Bool.and_eq_true, beq_iff_eq] at hc
        obtain ⟨⟨rfl, hc⟩, hy⟩ := hc
        have ev := H.2.2.2.2.2.2.2.2.1 hc
        have hj := H'.2.2.2.2.2.2.1 hy
        obtain ⟨J, hJ, iJ⟩ := hj
        obtain ⟨C', ey, hs, h1⟩ := hJ.q
        injection ht with ht
        subst ht
        have hj2 : JIn n w (.agg C') := by rw [← ey]; exact ⟨J, hJ, iJ⟩
        refine wp_store_row _ x y hop o _ ev ey _ _ hD1 (by rw [hs]; exact Tryz.infoJac) (by rw [hD2, hs]) h1 (hk undef _ k0 (fun k' v' h' => hasK_put h' hD1 (by decide) (.inr rfl) ⟨D, hD1⟩) ?_)
        rw [show outS (.store 125 x y) = true from rfl, Bool.or_true]
        exact hw.res hj2 hs
      · cases ht
  case build t parts =>
    simp only [tyOp] at ht
    split at ht
    · rename_i hp
      split at ht
      · rename_i hc
        obtain rfl := beq_iff_eq.1 hc
        injection ht with ht
        subst ht
        have hz := nil_in h0 w
        obtain ⟨X, hX, iX⟩ := hz
        refine op_run (held_build _ parts hop [] (by rw [hp]; rfl) _ built_j0 w) (same _ (k7 ⟨(X, X, X), ⟨_, _, _, _, _, _, rfl, hX, hX, hX⟩, iX, iX, iX⟩) rfl)
      · cases ht
    · rename_i x hp
      split at ht
      · rename_i hc
        simp only [Bool.and_eq_true, beq_iff_eq] at hc
        obtain ⟨rfl, hc⟩ := hc
        injection ht with ht
        subst ht
        have H := hx x (by simp [opL, hp])
        obtain ⟨A, i, c, ev, hr⟩ := H.2.2.2.2.2.2.2.2.2 hc
        rw [ev] at hr
        exact op_run (held_build _ parts hop [(0, .slice A i c)] (by rw [hp]; simp [ev]) _ (built_7A A i c) w) (same _ (k2 ⟨(1, 0), ⟨_, _, rfl, hr, row_nil w⟩, hn1, h0⟩) rfl)
      · cases ht
    · rename_i x y z hp
      split at ht
      · rename_i hc
        simp only [Bool.and_eq_true, beq_iff_eq] at hc
        obtain ⟨⟨⟨rfl, hc1⟩, hc2⟩, hc3⟩ := hc
        injection ht with ht
        subst ht
        have p1 := (hx x (by simp [opL, hp])).2.1 hc1
        have p2 := (hx y (by simp [opL, hp])).2.1 hc2
        have p3 := (hx z (by simp [opL, hp])).2.1 hc3
        obtain ⟨x1, x2, e1⟩ := p1.two
        obtain ⟨y1, y2, e2⟩ := p2.two
        obtain ⟨z1, z2, e3⟩ := p3.two
        rw [e1] at p1
        rw [e2] at p2
        rw [e3] at p3
        obtain ⟨X, hX, iX⟩ := p1
        obtain ⟨Y, hY, iY⟩ := p2
        obtain ⟨Z, hZ, iZ⟩ := p3
        exact op_run (held_build _ parts hop [(0, .agg #[x1, x2]), (1, .agg #[y1, y2]), (2, .agg #[z1, z2])] (by rw [hp]; simp [e1, e2, e3]) _ (built_ja x1 x2 y1 y2 z1 z2) w) (same _ (k7 ⟨(X, Y, Z), ⟨_, _, _, _, _, _, rfl, hX, hY, hZ⟩, iX, iY, iZ⟩) rfl)
      · cases ht
    · cases ht
  case buildSlice t c parts =>
    simp only [tyOp] at ht
    split at ht
    · rename_i z hp
      split at ht
      · rename_i hc
        simp only [Bool.and_eq_true, beq_iff_eq] at hc
        obtain ⟨⟨rfl, rfl⟩, rfl⟩ := hc
        injection ht with ht
        subst ht
        obtain rfl : parts = #[(0, .const (.int .i64 1))] := Array.ext' hp
        have b : Below w.heap.size w (w.alloc (.cells #[.int .i64 1] 3)) := (Below.refl _ _).alloc (Nat.le_refl _) _
        refine op_run (v := .slice (some ⟨w.heap.size, 0, none⟩) 1 1) (w' := w.alloc (.cells #[.int .i64 1] 3)) ?_ (more _ _ b (k10 (row_one w 1 (by omega) (by omega))) rfl)
        unfold execOp
        rw [hop]
        go_simp
      · cases ht
    · cases ht
  case call c =>
    simp only [tyOp] at ht
    split at ht
    · rename_i f x y z hc
      split at ht
      · rename_i hcc
        simp only [Bool.and_eq_true, beq_iff_eq, Bool.or_eq_true] at hcc
        obtain ⟨⟨⟨hf, c1⟩, c2⟩, c3⟩ := hcc
        injection ht with ht
        subst ht
        obtain ⟨X, hX, iX⟩ := (hx x (by simp [opL, hc])).2.1 c1
        obtain ⟨Y, hY, iY⟩ := (hx y (by simp [opL, hc])).2.1 c2
        have ez := (hx z (by simp [opL, hc])).1 c3
        have ho : (callOf o'.op).map (fun p => (p.1, p.2.map a.eval)) = some (f, [a.eval x, a.eval y, vp]) := by rw [hop, hc]; simp [ez]
        rcases hf with (rfl | rfl) | rfl
        · refine op_call Tryz.func59 (by kernel_rfl) ho ((lmul7_x hX hY hw.p iX iY hnG).mono ?_)
          rintro e w' ⟨v, rfl, hv, b⟩
          exact ⟨v, rfl, more v w' b (k2 ⟨_, hv, mulP_in h0 _ _⟩) rfl⟩
        · refine op_call Tryz.func89 (by kernel_rfl) ho ((ladd7_x hX hY hw.p iX iY hnG).mono ?_)
          rintro e w' ⟨v, rfl, hv, b⟩
          exact ⟨v, rfl, more v w' b (k2 ⟨_, hv, addP_in h0 _ _⟩) rfl⟩
        · refine op_call Tryz.func153 (by kernel_rfl) ho ((lsub7_x hX hY hw.p iX iY hnG).mono ?_)
          rintro e w' ⟨v, rfl, hv, b⟩
          exact ⟨v, rfl, more v w' b (k2 ⟨_, hv, subP_in h0 _ _⟩) rfl⟩
      · cases ht
    · rename_i f x hc
      split at ht
      · rename_i hcc
        simp only [Bool.and_eq_true, beq_iff_eq] at hcc
        obtain ⟨rfl, c1⟩ := hcc
        injection ht with ht
        subst ht
        obtain ⟨X, hX, iX⟩ := (hx x (by simp [opL, hc])).2.1 c1
        have ho : (callOf o'.op).map (fun p => (p.1, p.2.map a.eval)) = some (138, [a.eval x]) := by rw [hop, hc]; simp
        refine op_call Tryz.func138 (by kernel_rfl) ho ((lzero7_x hX).mono ?_)
        rintro e w' ⟨rfl, b⟩
        exact ⟨_, rfl, more _ w' b (k8 _) rfl⟩
      · cases ht
    · rename_i f x y hc
      split at ht
      · rename_i hcc
        simp only [Bool.and_eq_true, beq_iff_eq] at hcc
        obtain ⟨⟨⟨ht2, rfl⟩, c1⟩, c2⟩ := hcc
        injection ht with ht
        subst ht
        have hJ := (hx x (by simp [opL, hc])).2.2.2.2.2.2.1 c1
        have ey := (hx y (by simp [opL, hc])).1 c2
        have ho : (callOf o'.op).map (fun p => (p.1, p.2.map a.eval)) = some (140, [a.eval x, vp]) := by rw [hop, hc]; simp [ey]
        refine op_call Tryz.func140 (by kernel_rfl) ho ((HT ht2 _ _ hJ hw.p).mono ?_)
        rintro e w' ⟨v, rfl, hv, b⟩
        exact ⟨v, rfl, more v w' b (k7 hv) rfl⟩
      · cases ht
    · cases ht
/-! A region. -/
def asg : Nat → List Oper → List (Nat × Nat)
  | _, [] => []
  | i, o' :: l => match o'.dst with
    | some d => (d, i) :: asg (i + 1) l
    | none => asg (i + 1) l
theorem asg_of : ∀ {l : List Oper} {k d j : Nat}, (d, j) ∈ asg k l → ∃ o', k ≤ j ∧ l[j - k]? = some o' ∧ o'.dst = some d
  | [], _, _, _, h => by simp [asg] at h
  | o' :: l, k, d, j, h => by
    have step : (d, j) ∈ asg (k + 1) l → ∃ o'', k ≤ j ∧ (o' :: l)[j - k]? = some o'' ∧ o''.dst = some d := fun h => by
      obtain ⟨o'', h1, h2, h3⟩ := asg_of h
      refine ⟨o'', by omega, ?_, h3⟩
      rw [show j - k = (j - (k + 1)) + 1 by omega]
      simpa using h2
    unfold asg at h
    cases hd : o'.dst with
    | none => rw [hd] at h; exact step h
    | some e =>
      rw [hd] at h
      rcases List.mem_cons.1 h with h | h
      · injection h with h1 h2
        subst h1 h2
        exact ⟨o', Nat.le_refl _, by simp, hd⟩
      · exact step h
def okOp (tw dr : Bool) (G : List Nat) (NT : Nat) (A : List (Nat × Nat)) (i : Nat) (o' : Oper) : Bool :=
  o'.guard.isNone && ((match tyOp tw G o'.op with
    | some k => (match o'.dst with
      | some d => G.getD d 0 == k && Nat.blt d NT
      | none => true)
    | none => false) && ((opL o'.op).all (fun x => match x with
      | .tmp x => A.all (fun q => q.1 != x || (if dr then (depsMask .any o'.after.toList).testBit q.2 else Nat.blt q.2 i))
      | _ => true) && Nat.blt (depsMask .any o'.after.toList) (2 ^ i)))
def okAll (tw dr : Bool) (G : List Nat) (NT : Nat) (A : List (Nat × Nat)) : Nat → List Oper → Bool
  | _, [] => true
  | i, o' :: l => okOp tw dr G NT A i o' && okAll tw dr G NT A (i + 1) l
theorem okAll_at {tw dr : Bool} {G : List Nat} {NT : Nat} {A : List (Nat × Nat)} : ∀ {l : List Oper} {k j : Nat} {o' : Oper}, okAll tw dr G NT A k l = true → l[j]? = some o' → okOp tw dr G NT A (k + j) o' = true
  | [], _, j, _, _, h => by simp at h
  | o'' :: l, k, 0, o', h, hj => by
    simp at hj
    subst hj
    simp only [okAll, Bool.and_eq_true] at h
    exact h.1
  | o'' :: l, k, j + 1, o', h, hj => by
    simp only [okAll, Bool.and_eq_true] at h
    have := okAll_at (j := j) h.2 (by simpa using hj)
    rw [show k + (j + 1) = k + 1 + j by omega]
    exact this
def okR (tw dr : Bool) (G0 G : List Nat) (NT : Nat) (ops : Array Oper) : Bool :=
  okAll tw dr G NT (asg 0 ops.toList) 0 ops.toList && ((List.range NT).all (fun d => (asg 0 ops.toList).any (fun q => q.1 == d) || (G.getD d 0 == G0.getD d 0 || G.getD d 0 == 0)) && (Nat.ble G.length NT && Region.noSelect ops))
def outG (tw : Bool) : List Oper → List Nat → List Nat
  | [], G => G
  | o' :: l, G => outG tw l (match o'.dst, tyOp tw G o'.op with
    | some d, some k => G.set d k
    | _, _ => G)
end
section
variable (n : Nat) (vp : Value) (w0 : World) (o : Nat)
structure Inv (NT : Nat) (G : List Nat) (s : Bool) (a : Act) (w : World) : Prop where
  sz : a.tmps.size = NT
  df : a.defers = []
  k : ∀ d, HasK n vp w0 o w (G.getD d 0) (a.tmps.getD d undef)
  wi : WI n vp w0 o s w
structure Mid (NT : Nat) (G : List Nat) (s : Bool) (ops : Array Oper) (D : Nat → Bool) (a : Act) (w : World) : Prop where
  sz : a.tmps.size = NT
  df : a.defers = []
  k : ∀ d, (∀ j, (d, j) ∈ asg 0 ops.toList → D j = true) → HasK n vp w0 o w (G.getD d 0) (a.tmps.getD d undef)
  wi : ∃ b, WI n vp w0 o b w ∧ (s = true → b = true) ∧ ∀ (i : Nat) (o' : Oper), ops.toList[i]? = some o' → D i = true → outS o'.op = true → b = true
end
section
variable {n : Nat} {vp : Value} {w0 : World} {o : Nat}
theorem WI.to {b s : Bool} {w : World} (h : WI n vp w0 o b w) (e : s = true → b = true) : WI n vp w0 o s w := by
  obtain ⟨h1, h2, ⟨D, h3, h4, h5⟩, h6⟩ := h
  exact ⟨h1, h2, ⟨D, h3, h4, fun q => h5 (e q)⟩, h6⟩
theorem mid_step {tw dr : Bool} {G0 G : List Nat} {NT : Nat} {s : Bool} {ops : Array Oper} {D : Nat → Bool} {i : Nat} {o' : Oper} {a : Act} {w : World} {K : Act → World → Prop} {Q : Exit → Act → World → Prop} (hn1 : 1 < n) (hnG : n < GB) (HT : tw = true → ∀ v w, JIn n w v → RowX w vp n → Calls Tryz.prog 140 #[v, vp] w fun e w' => ∃ v', e = .returned v' ∧ JIn n w' v' ∧ Below w.heap.size w w')
    (hok : okR tw dr G0 G NT ops = true) (ho : ops.toList[i]? = some o') (hM : Mid n vp w0 o NT G s ops D a w) (hD : ∀ j, (if dr then (depsMask .any o'.after.toList).testBit j else Nat.blt j i) = true → D j = true)
    (hk : ∀ a' w', Mid n vp w0 o NT G s ops (fun j => D j || j == i) a' w' → K a' w') : o'.wp Tryz.prog a w K Q := by
  simp only [okR, Bool.and_eq_true] at hok
  have hoi := okAll_at hok.1 ho
  rw [Nat.zero_add] at hoi
  simp only [okOp, Bool.and_eq_true] at hoi
  obtain ⟨hg, ht, hx, _⟩ := hoi
  cases hty : tyOp tw G o'.op with
  | none => rw [hty] at ht; cases ht
  | some k =>
  rw [hty] at ht
  obtain ⟨b, hb, hb1, hb2⟩ := hM.wi
  refine op_ok (w0 := w0) (o := o) hn1 hnG HT hty (fun x hxm => ?_) hb (fun v w' hv hst hw' => hk _ _ ?_)
  · have hx1 := List.all_eq_true.1 hx x hxm
    cases x with
    | tmp t =>
      simp only at hx1
      refine hM.k t fun j hj => hD j ?_
      have hq := List.all_eq_true.1 hx1 _ hj
      simpa using hq
    | _ => exact k0
  · cases hd : o'.dst with
    | none =>
      have hnm : ∀ d, (d, i) ∉ asg 0 ops.toList := fun d hm => by
        obtain ⟨o'', _, h2, h3⟩ := asg_of hm
        rw [Nat.sub_zero, ho] at h2
        injection h2 with h2
        subst h2
        rw [hd] at h3
        cases h3
      refine ⟨hM.sz, hM.df, fun d hj => hst _ _ (hM.k d fun j hm => ?_), b || outS o'.op, hw', fun e => by rw [hb1 e]; rfl, fun i' o'' h1 h2 h3 => ?_⟩
      · have := hj j hm
        simp only [Bool.or_eq_true, beq_iff_eq] at this
        rcases this with h | rfl
        · exact h
        · exact absurd hm (hnm d)
      · simp only [Bool.or_eq_true, beq_iff_eq] at h2
        rcases h2 with h | rfl
        · rw [hb2 i' o'' h1 h h3]; rfl
        · rw [ho] at h1; injection h1 with h1; subst h1; rw [h3, Bool.or_true]
    | some d0 =>
      rw [hd] at ht
      simp only [Bool.and_eq_true, beq_iff_eq] at ht
      obtain ⟨hgk, hlt⟩ := ht
      have hlt' := Nat.blt_eq.mp hlt
      have hsz : (a.put (some d0) v).tmps.size = NT := by simp [Act.put, hM.sz]
      have hsame : (a.put (some d0) v).tmps.getD d0 undef = v := by
        have : d0 < a.tmps.size := by rw [hM.sz]; exact hlt'
        simp [Act.put, Array.getD_eq_getD_getElem?, this]
      have hoth : ∀ d, d ≠ d0 → (a.put (some d0) v).tmps.getD d undef = a.tmps.getD d undef := fun d hne => by
        simp [Act.put, Array.getD_eq_getD_getElem?, Array.getElem?_setIfInBounds_ne (Ne.symm hne)]
      refine ⟨hsz, hM.df, fun d hj => ?_, b || outS o'.op, hw', fun e => by rw [hb1 e]; rfl, fun i' o'' h1 h2 h3 => ?_⟩
      · by_cases hdd : d = d0
        · subst hdd
          rw [hsame, hgk]
          exact hv
        · rw [hoth d hdd]
          refine hst _ _ (hM.k d fun j hm => ?_)
          have := hj j hm
          simp only [Bool.or_eq_true, beq_iff_eq] at this
          rcases this with h | rfl
          · exact h
          · exfalso
            obtain ⟨o'', _, h2, h3⟩ := asg_of hm
            rw [Nat.sub_zero, ho] at h2
            injection h2 with h2
            subst h2
            rw [hd] at h3
            injection h3 with h3
            exact hdd h3.symm
      · simp only [Bool.or_eq_true, beq_iff_eq] at h2
        rcases h2 with h | rfl
        · rw [hb2 i' o'' h1 h h3]; rfl
        · rw [ho] at h1; injection h1 with h1; subst h1; rw [h3, Bool.or_true]
theorem mid_start {tw dr : Bool} {G0 G : List Nat} {NT : Nat} {s : Bool} {ops : Array Oper} {a : Act} {w : World} {D : Nat → Bool} (hD : ∀ j, D j = false) (hok : okR tw dr G0 G NT ops = true) (h : Inv n vp w0 o NT G0 s a w) : Mid n vp w0 o NT G s ops D a w := by
  simp only [okR, Bool.and_eq_true] at hok
  refine ⟨h.sz, h.df, fun d hj => ?_, s, h.wi, id, fun i o' _ h2 _ => by rw [hD] at h2; cases h2⟩
  by_cases hd : d < NT
  · have hq := List.all_eq_true.1 hok.2.1 d (List.mem_range.2 hd)
    simp only [Bool.or_eq_true, List.any_eq_true, beq_iff_eq] at hq
    rcases hq with ⟨q, hm, rfl⟩ | hq | hq
    · have := hj q.2 hm
      rw [hD] at this; cases this
    · rw [hq]; exact h.k d
    · rw [hq]; exact k0
  · have hl := Nat.ble_eq.mp hok.2.2.1
    rw [List.getD_eq_getElem?_getD, List.getElem?_eq_none (by omega)]
    exact k0
theorem mid_end {G : List Nat} {NT : Nat} {s : Bool} {ops : Array Oper} {a : Act} {w : World} {D : Nat → Bool} (h : Mid n vp w0 o NT G s ops D a w) (hD : ∀ j, j < ops.size → D j = true) : Inv n vp w0 o NT G (s || ops.toList.any (fun o' => outS o'.op)) a w := by
  obtain ⟨b, hb, hb1, hb2⟩ := h.wi
  refine ⟨h.sz, h.df, fun d => h.k d fun j hm => ?_, hb.to fun e => ?_⟩
  · obtain ⟨o', _, h2, _⟩ := asg_of hm
    rw [Nat.sub_zero] at h2
    exact hD j (by have := (List.getElem?_eq_some_iff.1 h2).1; simpa using this)
  · simp only [Bool.or_eq_true, List.any_eq_true] at e
    rcases e with e | ⟨o', hm, hs⟩
    · exact hb1 e
    · obtain ⟨i, hi, he⟩ := List.getElem_of_mem hm
      exact hb2 i o' (by rw [List.getElem?_eq_getElem hi, he]) (hD i (by simpa using hi)) hs
/-! In any order. -/
def cnt (M : Nat) : Nat → Nat
  | 0 => 0
  | k + 1 => cnt M k + (if M.testBit k then 0 else 1)
theorem bit_set {M i k : Nat} : (M ||| (1 <<< i)).testBit k = (M.testBit k || k == i) := by
  rw [Nat.testBit_or, Nat.one_shiftLeft, Nat.testBit_two_pow]
  by_cases e : i = k
  · subst e; simp
  · simp [e, Ne.symm e]
theorem cnt_zero : ∀ k, cnt 0 k = k
  | 0 => rfl
  | k + 1 => by rw [cnt, cnt_zero k]; simp
theorem cnt_same {M i : Nat} : ∀ {k : Nat}, k ≤ i → cnt (M ||| (1 <<< i)) k = cnt M k
  | 0, _ => rfl
  | k + 1, h => by
    rw [cnt, cnt, cnt_same (by omega), bit_set]
    have : (k == i) = false := by simp; omega
    rw [this, Bool.or_false]
theorem cnt_set {M i : Nat} (hb : M.testBit i = false) : ∀ {k : Nat}, i < k → cnt M k = cnt (M ||| (1 <<< i)) k + 1
  | 0, h => by omega
  | k + 1, h => by
    rw [cnt, cnt, bit_set]
    by_cases e : k = i
    · subst e
      rw [cnt_same (Nat.le_refl _), hb]
      simp
    · have : (k == i) = false := by simp [e]
      rw [cnt_set hb (show i < k by omega), this, Bool.or_false]
      omega
theorem cnt_none {M : Nat} : ∀ {k : Nat}, cnt M k = 0 → ∀ j, j < k → M.testBit j = true
  | 0, _, j, h => by omega
  | k + 1, h, j, hj => by
    rw [cnt] at h
    by_cases e : j = k
    · subst e
      cases hb : M.testBit j with
      | true => rfl
      | false => rw [hb] at h; simp at h
    · exact cnt_none (k := k) (by omega) j (by omega)
theorem cnt_some {M : Nat} : ∀ {k : Nat}, 0 < cnt M k → ∃ j, j < k ∧ M.testBit j = false ∧ ∀ i, i < j → M.testBit i = true
  | 0, h => by simp [cnt] at h
  | k + 1, h => by
    rw [cnt] at h
    by_cases h0 : 0 < cnt M k
    · obtain ⟨j, h1, h2, h3⟩ := cnt_some h0
      exact ⟨j, by omega, h2, h3⟩
    · have hz : cnt M k = 0 := by omega
      cases hb : M.testBit k with
      | true => rw [hb] at h; simp at h; omega
      | false => exact ⟨k, by omega, hb, cnt_none hz⟩
theorem any_go {tw : Bool} {G0 G : List Nat} {NT : Nat} {s : Bool} {ops : Array Oper} {Q : Exit → Act → World → Prop} (hn1 : 1 < n) (hnG : n < GB) (HT : tw = true → ∀ v w, JIn n w v → RowX w vp n → Calls Tryz.prog 140 #[v, vp] w fun e w' => ∃ v', e = .returned v' ∧ JIn n w' v' ∧ Below w.heap.size w w')
    (hok : okR tw true G0 G NT ops = true) (hQ : ∀ a w, Inv n vp w0 o NT G (s || ops.toList.any (fun o' => outS o'.op)) a w → Q .normal a w) : ∀ (f M : Nat) (a : Act) (w : World), cnt M ops.size = f → Mid n vp w0 o NT G s ops (fun j => M.testBit j) a w → wpM Tryz.prog .any ops Q (fun _ => True) f M a w := by
  have hI := tells_infoS ops ops.toList
  have rdy : ∀ {M j}, j ∈ readyI M 0 (infoS ops) → ∃ o', ops.toList[j]? = some o' ∧ M.testBit j = false ∧ ∀ i, (depsMask .any o'.after.toList).testBit i = true → M.testBit i = true := fun {M j} hj => by
    obtain ⟨x, _, hx, h1, h2⟩ := readyI_mem.1 hj
    rw [Nat.sub_zero] at hx
    unfold infoS at hx
    rw [List.getElem?_map] at hx
    cases ho : ops.toList[j]? with
    | none => rw [ho] at hx; cases hx
    | some o' =>
      rw [ho] at hx
      injection hx with hx
      subst hx
      exact ⟨o', rfl, h1, fun i hi => sub_mask h2 hi⟩
  intro f
  induction f with
  | zero =>
    intro M a w hc hM
    refine m_done (infoS ops) hI ?_ a rfl (hQ a w (mid_end hM (cnt_none hc)))
    refine List.eq_nil_iff_forall_not_mem.2 fun j hj => ?_
    obtain ⟨o', ho, h1, _⟩ := rdy hj
    have := cnt_none hc j (by have := (List.getElem?_eq_some_iff.1 ho).1; simpa using this)
    rw [h1] at this; cases this
  | succ f ih =>
    intro M a w hc hM
    refine m_ways (f := f) (infoS ops) _ hI rfl ?_ (by simp) fun i hi => ?_
    · obtain ⟨j, h1, h2, h3⟩ := cnt_some (M := M) (k := ops.size) (by omega)
      have hj : j ∈ readyI M 0 (infoS ops) := by
        refine readyI_mem.2 ⟨_, Nat.zero_le _, by rw [Nat.sub_zero]; unfold infoS; rw [List.getElem?_map, List.getElem?_eq_getElem (by simpa using h1)]; rfl, h2, ?_⟩
        have hok' := hok
        simp only [okR, Bool.and_eq_true] at hok'
        have hoi := okAll_at (j := j) hok'.1 (List.getElem?_eq_getElem (by simpa using h1))
        simp only [okOp, Bool.and_eq_true] at hoi
        have hlt := Nat.blt_eq.mp hoi.2.2.2
        rw [Nat.zero_add] at hlt
        refine beq_iff_eq.2 (Nat.eq_of_testBit_eq fun i => ?_)
        rw [Nat.testBit_and]
        by_cases hij : i < j
        · rw [h3 i hij, Bool.and_true]
        · have : Nat.testBit (depsMask .any (ops.toList[j]'(by simpa using h1)).after.toList) i = false := Nat.testBit_lt_two_pow (Nat.lt_of_lt_of_le hlt (Nat.pow_le_pow_right (by omega) (by omega)))
          simp only [this, Bool.false_and]
      cases hr : readyI M 0 (infoS ops) with
      | nil => rw [hr] at hj; cases hj
      | cons => rfl
    · obtain ⟨o', ho, h1, h2⟩ := rdy hi
      have hlt : i < ops.size := by have := (List.getElem?_eq_some_iff.1 ho).1; simpa using this
      have e0 : oAt ops i = o' := by
        have := oAt_some hlt
        rw [← Array.getElem?_toList, ho] at this
        injection this with this
        exact this.symm
      have hgn : Region.wanted (oAt ops i) (yielded ops a.tmps) = true := by
        have hok' := hok
        simp only [okR, Bool.and_eq_true] at hok'
        have hoi := okAll_at hok'.1 ho
        simp only [okOp, Bool.and_eq_true] at hoi
        rw [e0]
        unfold Region.wanted
        cases hg : o'.guard with
        | none => rfl
        | some q => rw [hg] at hoi; cases hoi.1
      refine sq_op (by rw [Nat.blt_eq]; exact hlt) hgn ?_
      rw [e0]
      refine mid_step (w0 := w0) (o := o) hn1 hnG HT hok ho hM (fun j hj => h2 j (by simpa using hj)) fun a' w' hM' => ⟨trivial, ih _ a' w' ?_ ?_⟩
      · have := cnt_set h1 hlt
        omega
      · have e : (fun j => (M ||| (1 <<< i)).testBit j) = fun j => M.testBit j || j == i := funext fun j => bit_set
        rw [e]
        exact hM'
theorem line_go {tw : Bool} {G0 G : List Nat} {NT : Nat} {s : Bool} {ops : Array Oper} {Q : Exit → Act → World → Prop} {K : Act → World → Prop} (hn1 : 1 < n) (hnG : n < GB) (HT : tw = true → ∀ v w, JIn n w v → RowX w vp n → Calls Tryz.prog 140 #[v, vp] w fun e w' => ∃ v', e = .returned v' ∧ JIn n w' v' ∧ Below w.heap.size w w')
    (hok : okR tw false G0 G NT ops = true) (hQ : ∀ a w, Inv n vp w0 o NT G (s || ops.toList.any (fun o' => outS o'.op)) a w → K a w) : ∀ (k i : Nat) (a : Act) (w : World), i + k = ops.size → Mid n vp w0 o NT G s ops (fun j => Nat.blt j i) a w → seqH Tryz.prog ops Q (fun _ => True) K ((List.range' i k).map (false, ·)) a w
  | 0, i, a, w, he, hM => hQ a w (mid_end hM fun j hj => by rw [Nat.blt_eq]; omega)
  | k + 1, i, a, w, he, hM => by
    have hlt : i < ops.size := by omega
    have ho : ops.toList[i]? = some (oAt ops i) := by rw [Array.getElem?_toList]; exact oAt_some hlt
    have hgn : Region.wanted (oAt ops i) (yielded ops a.tmps) = true := by
      have hok' := hok
      simp only [okR, Bool.and_eq_true] at hok'
      have hoi := okAll_at hok'.1 ho
      simp only [okOp, Bool.and_eq_true] at hoi
      unfold Region.wanted
      cases hg : (oAt ops i).guard with
      | none => rfl
      | some q => rw [hg] at hoi; cases hoi.1
    rw [List.range'_succ, List.map_cons]
    refine sq_op (by rw [Nat.blt_eq]; exact hlt) hgn ?_
    refine mid_step (w0 := w0) (o := o) hn1 hnG HT hok ho hM (fun j hj => by simpa using hj) fun a' w' hM' => ⟨trivial, line_go hn1 hnG HT hok hQ k (i + 1) a' w' (by omega) ?_⟩
    have e : (fun j => Nat.blt j (i + 1)) = fun j => Nat.blt j i || j == i := funext fun j => by
      rw [Bool.eq_iff_iff]
      simp only [Bool.or_eq_true, Nat.blt_eq, beq_iff_eq]
      omega
    rw [e]
    exact hM'
/-! Code. -/
def Ok (n : Nat) (vp : Value) (w0 : World) (o NT rs : Nat) (G : List Nat) (s : Bool) (c : Code) (N : Act → World → Prop) : Prop :=
  ∀ a w, Inv n vp w0 o NT G s a w → c.wp Tryz.prog (fun e a' w' => (e = .normal ∧ N a' w') ∨ (e = .ret ∧ a'.defers = [] ∧ a'.tmps.getD rs undef = .pointer (some ⟨o, 0, none⟩) ∧ WI n vp w0 o true w')) a w
theorem ok_seq {NT rs : Nat} {G G1 : List Nat} {s s1 : Bool} {c c' : Code} {N : Act → World → Prop} (h : Ok n vp w0 o NT rs G s c (Inv n vp w0 o NT G1 s1)) (h' : Ok n vp w0 o NT rs G1 s1 c' N) : Ok n vp w0 o NT rs G s (.seq c c') N := fun a w hI => by
  refine wp_seq (Code.wp_mono ?_ (h a w hI))
  rintro e a' w' (⟨rfl, q⟩ | ⟨rfl, q⟩)
  · exact h' a' w' q
  · exact .inr ⟨rfl, q⟩
theorem ok_ret {NT rs : Nat} {G : List Nat} {N : Act → World → Prop} {s : Bool} (hs : s = true) (hr : G.getD rs 0 = 9) : Ok n vp w0 o NT rs G s .ret N := fun a w hI => by
  subst hs
  refine wp_ret (.inr ⟨rfl, hI.df, ?_, hI.wi⟩)
  have := hI.k rs
  rw [hr] at this
  exact this.2.2.2.2.2.2.2.2.1 rfl
theorem ok_exit {NT rs d : Nat} {G : List Nat} {s : Bool} {c : Code} (hk : G.getD d 0 = 8) (h : Ok n vp w0 o NT rs G s c (fun _ _ => False)) : Ok n vp w0 o NT rs G s (.cond (.tmp d) c .skip) (Inv n vp w0 o NT G s) := fun a w hI => by
  have := hI.k d
  rw [hk] at this
  obtain ⟨b, hb⟩ := this.2.2.2.2.2.2.2.1 rfl
  cases b with
  | true =>
    refine wp_cond_true hb (Code.wp_mono ?_ (h a w hI))
    rintro e a' w' (⟨rfl, q⟩ | q)
    · exact q.elim
    · exact .inr q
  | false => exact wp_cond_false hb (wp_skip (.inl ⟨rfl, hI⟩))
theorem reg_run {tw dr : Bool} {NT id : Nat} {G : List Nat} {s : Bool} {ops : Array Oper} {a : Act} {w : World} {Q : Exit → Act → World → Prop} (hn1 : 1 < n) (hnG : n < GB) (HT : tw = true → ∀ v w, JIn n w v → RowX w vp n → Calls Tryz.prog 140 #[v, vp] w fun e w' => ∃ v', e = .returned v' ∧ JIn n w' v' ∧ Below w.heap.size w w')
    (hok : okR tw dr G (outG tw ops.toList G) NT ops = true) (hI : Inv n vp w0 o NT G s a w) (hQ : ∀ a w, Inv n vp w0 o NT (outG tw ops.toList G) (s || ops.toList.any (fun o' => outS o'.op)) a w → Q .normal a w) : (Code.region id ops dr).wp Tryz.prog Q a w := by
  cases dr with
  | true =>
    have bd : Below w.heap.size w w.drew := bd7 w
    exact m_begin (S := fun _ => True) (by kernel_rfl) ops.size (by simp) (any_go (w0 := w0) (o := o) (s := s) hn1 hnG HT hok hQ _ _ a _ (cnt_zero _) (mid_start (fun j => Nat.zero_testBit j) hok ⟨hI.sz, hI.df, fun d => hasK_below (hI.k d) bd, hI.wi.below bd⟩))
  | false =>
    refine wp_region_line (S := fun _ => True) ((List.range' 0 ops.size).map (false, ·)) (by rw [List.map_map, List.range_eq_range']; simp [Function.comp_def]) (by rw [List.all_eq_true]; intro q hq; simp at hq; obtain ⟨i, hi, rfl⟩ := hq; simpa using hi) trivial ?_
    exact line_go (w0 := w0) (o := o) (s := s) hn1 hnG HT hok hQ _ _ a w (by omega) (mid_start (fun j => by cases j <;> rfl) hok hI)
theorem ok_region {tw dr : Bool} {NT rs id : Nat} {G : List Nat} {s : Bool} {ops : Array Oper} (hn1 : 1 < n) (hnG : n < GB) (HT : tw = true → ∀ v w, JIn n w v → RowX w vp n → Calls Tryz.prog 140 #[v, vp] w fun e w' => ∃ v', e = .returned v' ∧ JIn n w' v' ∧ Below w.heap.size w w')
    (hok : okR tw dr G (outG tw ops.toList G) NT ops = true) : Ok n vp w0 o NT rs G s (.region id ops dr) (Inv n vp w0 o NT (outG tw ops.toList G) (s || ops.toList.any (fun o' => outS o'.op))) := fun _ _ hI =>
  reg_run hn1 hnG HT hok hI fun _ _ h => .inl ⟨rfl, h⟩
theorem run_ok {NT rs : Nat} {G : List Nat} {s : Bool} {c : Code} {a : Act} {w : World} {Q : Exit → Act → World → Prop} (h : Ok n vp w0 o NT rs G s c (fun _ _ => False)) (hI : Inv n vp w0 o NT G s a w) (hr : ∀ a' w', a'.defers = [] → a'.tmps.getD rs undef = .pointer (some ⟨o, 0, none⟩) → WI n vp w0 o true w' → Q .ret a' w') : c.wp Tryz.prog Q a w := by
  refine Code.wp_mono ?_ (h a w hI)
  rintro e a' w' (⟨rfl, q⟩ | ⟨rfl, q1, q2, q3⟩)
  · exact q.elim
  · exact hr a' w' q1 q2 q3
theorem kset {w : World} {G : List Nat} {f : Nat → Value} {i k : Nat} (h : ∀ d, HasK n vp w0 o w (G.getD d 0) (f d)) (hi : HasK n vp w0 o w k (f i)) (d : Nat) : HasK n vp w0 o w ((G.set i k).getD d 0) (f d) := by
  by_cases e : d = i
  · subst e
    by_cases hl : d < G.length
    · have : (G.set d k).getD d 0 = k := by simp [List.getD_eq_getElem?_getD, hl]
      rw [this]; exact hi
    · have : (G.set d k).getD d 0 = 0 := by simp [List.getD_eq_getElem?_getD, hl]
      rw [this]; exact k0
  · have : (G.set i k).getD d 0 = G.getD d 0 := by simp [List.getD_eq_getElem?_getD, List.getElem?_set_ne (Ne.symm e)]
    rw [this]; exact h d
theorem kno {w : World} {NT : Nat} {f : Nat → Value} (d : Nat) : HasK n vp w0 o w ((List.replicate NT 0).getD d 0) (f d) := by
  have : (List.replicate NT 0).getD d 0 = 0 := by
    rw [List.getD_eq_getElem?_getD, List.getElem?_replicate]
    split <;> rfl
  rw [this]; exact k0
end
end Go.Proofs.YtkmmlfocidfghaaGreat
/-
  spec's l12Twice and l12More: what they hand back is a point in three pairs.
-/
namespace Go.Proofs.YtkmmlfocidfghaaGreat
open Go.RowKit
theorem kset2 {n : Nat} {vp : Value} {w0 : World} {o : Nat} {w : World} {G : List Nat} {a : Act} {i k : Nat} {v : Value} (h : ∀ d, HasK n vp w0 o w (G.getD d 0) (a.tmps.getD d undef)) (e : a.tmps.getD i undef = v) (hi : HasK n vp w0 o w k v) : ∀ d, HasK n vp w0 o w ((G.set i k).getD d 0) (a.tmps.getD d undef) :=
  kset (f := fun d => a.tmps.getD d undef) h (e ▸ hi)
theorem kno2 {n : Nat} {vp : Value} {w0 : World} {o : Nat} {w : World} {NT : Nat} {a : Act} : ∀ d, HasK n vp w0 o w ((List.replicate NT 0).getD d 0) (a.tmps.getD d undef) := kno (f := fun d => a.tmps.getD d undef)
def JPost (n : Nat) (w : World) (e : Ending) (w' : World) : Prop := ∃ v', e = .returned v' ∧ JIn n w' v' ∧ Below w.heap.size w w'
theorem jac_in {n : Nat} {w : World} {e : Ending} {w' : World} (h0 : 0 < n) (h : JacTo ((0, 0), (0, 0), (0, 0)) w e w') : JPost n w e w' := by
  obtain ⟨v, rfl, h1, h2⟩ := h
  exact ⟨v, rfl, ⟨_, h1, ⟨h0, h0⟩, ⟨h0, h0⟩, ⟨h0, h0⟩⟩, h2⟩
set_option maxRecDepth 8000 in
set_option maxHeartbeats 1000000 in
theorem ltwice_in {n : Nat} {w : World} {v vp : Value} (hn1 : 1 < n) (hnG : n < GB) (h : JIn n w v) (hp : RowX w vp n) : Calls Tryz.prog 140 #[v, vp] w (JPost n w) := by
  have hj := h
  obtain ⟨J, ⟨x1, x2, y1, y2, z1, z2, rfl, ⟨_, _, e1, a1, a2⟩, ⟨_, _, e2, b1, b2⟩, ⟨_, _, e3, d1, d2⟩⟩, i1, i2, i3⟩ := h
  injection e1 with e1
  injection e2 with e2
  injection e3 with e3
  simp only [Array.mk.injEq, List.cons.injEq, and_true] at e1 e2 e3
  obtain ⟨rfl, rfl⟩ := e1
  obtain ⟨rfl, rfl⟩ := e2
  obtain ⟨rfl, rfl⟩ := e3
  obtain ⟨A1, n1, c1, rfl⟩ := a1.shape
  obtain ⟨A2, n2, c2, rfl⟩ := a2.shape
  obtain ⟨A3, n3, c3, rfl⟩ := b1.shape
  obtain ⟨A4, n4, c4, rfl⟩ := b2.shape
  obtain ⟨A5, n5, c5, rfl⟩ := d1.shape
  obtain ⟨A6, n6, c6, rfl⟩ := d2.shape
  have hz : PairX w (.agg #[.slice A5 n5 c5, .slice A6 n6 c6]) J.2.2 := ⟨_, _, rfl, d1, d2⟩
  have hy : PairX w (.agg #[.slice A3 n3 c3, .slice A4 n4 c4]) J.2.1 := ⟨_, _, rfl, b1, b2⟩
  by_cases z0 : J.2.2 = (0, 0)
  · exact (twice_z hz hp z0).mono fun _ _ h => jac_in (by omega) h
  · by_cases y0 : J.2.1 = (0, 0)
    · exact (twice_y hy hz hp y0 z0).mono fun _ _ h => jac_in (by omega) h
    · obtain ⟨pA, pn, pc, rfl⟩ := hp.shape
      have HP := Lib.hid hp
      have HJ := Lib.hid hj
      have HY := Lib.hid hy
      have HZ := Lib.hid hz
      have HN := Lib.hid (And.intro hn1 hnG)
      have HY0 := Lib.hid (decide_eq_false y0)
      have HZ0 := Lib.hid (decide_eq_false z0)
      have HG := Lib.hid (begun2 (Held.none w) (jaC (.slice A1 n1 c1) (.slice A2 n2 c2) (.slice A3 n3 c3) (.slice A4 n4 c4) (.slice A5 n5 c5) (.slice A6 n6 c6)) #[.slice none 0 0, .slice none 0 0, .slice none 0 0, .slice none 0 0, .slice none 0 0, .slice none 0 0] 125 125)
      clear a1 a2 b1 b2 d1 d2 hy hz hp hj i1 i2 i3 hn1 hnG y0 z0
      unfold JPost
      go_enter Tryz.func140, Tryz.ntmps140
      go_upto_region 1 with (fail)
      generalize (w.alloc _).alloc _ = v0 at *
      have HS := Lib.hid HG.out.h
      refine wp_region_line (S := fun w' => Held w' [(w.heap.size, jaC (.slice A1 n1 c1) (.slice A2 n2 c2) (.slice A3 n3 c3) (.slice A4 n4 c4) (.slice A5 n5 c5) (.slice A6 n6 c6), 125)]) [(true, 0), (true, 1), (false, 2), (true, 3), (true, 4), (true, 5), (false, 6), (true, 7)] (by kernel_rfl) (by kernel_rfl) HS.out ?_
      refine SQ.out ?_
      refine g_ps [(0, .pointer (some ⟨w.heap.size, 4, none⟩))] (by kernel_rfl) ?_
      refine g_ld (some 13) (ld_mid (k := 4) (.head _) rfl rfl) (by kernel_rfl) ?_
      refine g_c (some 14) Tryz.func138 (lzero7_x (HZ.out.below HG.out.b)) (by kernel_rfl) ?_
      rintro e v1 ⟨he, bw1⟩
      rw [HZ0.out] at he
      subst he
      replace HG := Lib.hid (HG.out.on bw1)
      have HS1 := Lib.hid HG.out.h
      refine ⟨_, rfl, HS1.out, ?_⟩
      refine g_ps [(3, .bool false), (4, .pointer (some ⟨w.heap.size, 2, none⟩))] (by kernel_rfl) ?_
      refine g_ld (some 17) (ld_mid (k := 2) (.head _) rfl rfl) (by kernel_rfl) ?_
      refine g_c (some 18) Tryz.func138 (lzero7_x (HY.out.below HG.out.b)) (by kernel_rfl) ?_
      rintro e v2 ⟨he, bw2⟩
      rw [HY0.out] at he
      subst he
      replace HG := Lib.hid (HG.out.on bw2)
      have HS2 := Lib.hid HG.out.h
      refine ⟨_, rfl, HS2.out, ?_⟩
      refine g_ps [(7, .bool false)] (by kernel_rfl) ?_
      refine g_norm { tmps := List.toArray (List.append [.agg (jaC (.slice A1 n1 c1) (.slice A2 n2 c2) (.slice A3 n3 c3) (.slice A4 n4 c4) (.slice A5 n5 c5) (.slice A6 n6 c6)), .slice pA pn pc, .pointer (some ⟨w.heap.size, 0, none⟩), undef, .pointer (some ⟨(w.heap.size + 1), 0, none⟩), undef, undef, undef, undef, undef, undef, undef, .pointer (some ⟨w.heap.size, 4, none⟩), .agg #[.slice A5 n5 c5, .slice A6 n6 c6], .bool false, .bool false, .pointer (some ⟨w.heap.size, 2, none⟩), .agg #[.slice A3 n3 c3, .slice A4 n4 c4], .bool false, .bool false, undef, undef, undef, undef, undef, undef, undef, undef, undef, undef, undef, undef, undef, undef, undef, undef, undef, undef, undef, undef] (List.append [undef, undef, undef, undef, undef, undef, undef, undef, undef, undef, undef, undef, undef, undef, undef, undef, undef, undef, undef, undef, undef, undef, undef, undef, undef, undef, undef, undef, undef, undef, undef, undef, undef, undef, undef, undef, undef, undef, undef, undef] ([undef, undef, undef, undef, undef, undef, undef, undef, undef, undef, undef, undef, undef, undef, undef, undef, undef, undef, undef, undef, undef]))), defers := [] } (by kernel_rfl) ?_
      refine g_done ?_
      refine (by assumption : ∀ (a : Act) (w_1 : World), Code.wp _ _ _ a w_1 → _) _ _ ?_
      refine wp_cond_false (by kernel_rfl) ?_
      refine wp_skip ?_
      refine (by assumption : ∀ (a : Act) (w_1 : World), Code.wp _ (Code.seq _ _) _ a w_1 → _) _ _ ?_
      refine run_ok (n := n) (vp := .slice pA pn pc) (w0 := w) (o := w.heap.size + 1) (NT := 101) (rs := 4) (G := (((List.replicate 101 0).set 1 1).set 2 5).set 4 9) (s := false) ?_ ?_ ?_
      · have hn1 := HN.out.1
        have hnG := HN.out.2
        have HT : false = true → ∀ v w, JIn n w v → RowX w (.slice pA pn pc) n → Calls Tryz.prog 140 #[v, .slice pA pn pc] w fun e w' => ∃ v', e = .returned v' ∧ JIn n w' v' ∧ Below w.heap.size w w' := fun e => by cases e
        repeat' first
          | exact ok_ret (by kernel_rfl) (by kernel_rfl)
          | refine ok_seq (ok_region (tw := false) hn1 hnG HT (by kernel_rfl)) ?_
      · refine ⟨by kernel_rfl, by kernel_rfl, kset2 (v := .pointer (some ⟨w.heap.size + 1, 0, none⟩)) (kset2 (v := .pointer (some ⟨w.heap.size, 0, none⟩)) (kset2 (v := .slice pA pn pc) kno2 (by kernel_rfl) ?_) (by kernel_rfl) ?_) (by kernel_rfl) ?_, ⟨HG.out.b, HP.out.below HG.out.b, ⟨_, HG.out.out, rfl, fun e => by cases e⟩, by omega⟩⟩
        · exact ⟨fun _ => rfl, nope rfl, nope rfl, nope rfl, nope rfl, nope rfl, nope rfl, nope rfl, nope rfl, nope rfl⟩
        · exact ⟨nope rfl, nope rfl, nope rfl, nope rfl, fun _ => ⟨w.heap.size, rfl, _, HG.out.h _ (.head _), HJ.out.below HG.out.b, by omega⟩, nope rfl, nope rfl, nope rfl, nope rfl, nope rfl⟩
        · exact ⟨nope rfl, nope rfl, nope rfl, nope rfl, nope rfl, nope rfl, nope rfl, nope rfl, fun _ => rfl, nope rfl⟩
      · intro a' w' hd ht hw
        obtain ⟨C, h1, h2, h3⟩ := hw.out
        exact bodyPost_ret (results_cell_row Tryz.results140 _ _ (w.heap.size + 1) _ _ _ _ ht h1 Tryz.underlying125 rfl (by rw [h2]; exact Tryz.infoJac)) hd ⟨_, rfl, h3 rfl, hw.b⟩
set_option maxRecDepth 8000 in
set_option maxHeartbeats 1000000 in
theorem lmore_in {n : Nat} {w : World} {v vb vp : Value} {B : Pn × Pn} (hn1 : 1 < n) (hnG : n < GB) (h : JIn n w v) (hb : PtX w vb (some B)) (i4 : InP2 n B.1) (i5 : InP2 n B.2) (hp : RowX w vp n) : Calls Tryz.prog 141 #[v, vb, vp] w (JPost n w) := by
  have HJ := Lib.hid h
  obtain ⟨J, hJ, _⟩ := h
  obtain ⟨q, rfl, sq, oq⟩ := hJ.q
  have HP := Lib.hid hp
  obtain ⟨pA, pn, pc, rfl⟩ := hp.shape
  obtain ⟨xa, xb, ya, yb, rfl, h1, h2, h3, h4⟩ := hb
  have HX := Lib.hid (show PIn n w (.agg #[xa, xb]) from ⟨_, ⟨_, _, rfl, h1, h2⟩, i4⟩)
  have HY := Lib.hid (show PIn n w (.agg #[ya, yb]) from ⟨_, ⟨_, _, rfl, h3, h4⟩, i5⟩)
  have HN := Lib.hid (And.intro hn1 hnG)
  have HG := Lib.hid (begun3 (Held.none w) q (ptC false xa xb ya yb) #[.slice none 0 0, .slice none 0 0, .slice none 0 0, .slice none 0 0, .slice none 0 0, .slice none 0 0] 125 58 125)
  have HT := Lib.hid (show true = true → ∀ v w, JIn n w v → RowX w (.slice pA pn pc) n → Calls Tryz.prog 140 #[v, .slice pA pn pc] w fun e w' => ∃ v', e = .returned v' ∧ JIn n w' v' ∧ Below w.heap.size w w' from fun _ v w hj hr => ltwice_in hn1 hnG hj hr)
  clear h1 h2 h3 h4 i4 i5 hp hJ hn1 hnG sq oq
  unfold JPost
  go_enter Tryz.func141, Tryz.ntmps141
  go_upto_region 1 with (fail)
  generalize ((w.alloc _).alloc _).alloc _ = v0 at *
  refine reg_run (n := n) (vp := .slice pA pn pc) (w0 := w) (o := w.heap.size + 1 + 1) (NT := 115) (tw := true) (dr := false) (G := ((((List.replicate 115 0).set 2 1).set 3 5).set 4 6).set 6 9) (s := false) HN.out.1 HN.out.2 HT.out (by kernel_rfl) ?_ ?_
  · refine ⟨by kernel_rfl, by kernel_rfl, kset2 (v := .pointer (some ⟨w.heap.size + 1 + 1, 0, none⟩)) (kset2 (v := .pointer (some ⟨w.heap.size + 1, 0, none⟩)) (kset2 (v := .pointer (some ⟨w.heap.size, 0, none⟩)) (kset2 (v := .slice pA pn pc) kno2 (by kernel_rfl) ?_) (by kernel_rfl) ?_) (by kernel_rfl) ?_) (by kernel_rfl) ?_, ⟨HG.out.b, HP.out.below HG.out.b, ⟨_, HG.out.out, rfl, fun e => by cases e⟩, by omega⟩⟩
    · exact ⟨fun _ => rfl, nope rfl, nope rfl, nope rfl, nope rfl, nope rfl, nope rfl, nope rfl, nope rfl, nope rfl⟩
    · exact ⟨nope rfl, nope rfl, nope rfl, nope rfl, fun _ => ⟨w.heap.size, rfl, _, HG.out.h _ (.tail _ (.head _)), HJ.out.below HG.out.b, by omega⟩, nope rfl, nope rfl, nope rfl, nope rfl, nope rfl⟩
    · exact ⟨nope rfl, nope rfl, nope rfl, nope rfl, nope rfl, fun _ => ⟨w.heap.size + 1, rfl, ⟨_, 58, xa, xb, HG.out.h _ (.head _), rfl, rfl, HX.out.below HG.out.b, by decide, by omega⟩, ⟨_, 58, ya, yb, HG.out.h _ (.head _), rfl, rfl, HY.out.below HG.out.b, by decide, by omega⟩⟩, nope rfl, nope rfl, nope rfl, nope rfl⟩
    · exact ⟨nope rfl, nope rfl, nope rfl, nope rfl, nope rfl, nope rfl, nope rfl, nope rfl, fun _ => rfl, nope rfl⟩
  intro a1 w1 hI
  refine (by assumption : ∀ (a : Act) (w_1 : World), Code.wp _ (Code.seq _ _) _ a w_1 → _) _ _ ?_
  refine run_ok (rs := 6) ?_ hI ?_
  · have hn1 := HN.out.1
    have hnG := HN.out.2
    have HT2 := HT.out
    repeat' first
      | exact ok_ret (by kernel_rfl) (by kernel_rfl)
      | refine ok_seq (ok_seq (ok_region (tw := true) hn1 hnG HT2 (by kernel_rfl)) (ok_exit (by kernel_rfl) ?_)) ?_
      | refine ok_seq (ok_region (tw := true) hn1 hnG HT2 (by kernel_rfl)) ?_
  · intro a' w' hd ht hw
    obtain ⟨C, h1, h2, h3⟩ := hw.out
    exact bodyPost_ret (results_cell_row Tryz.results141 _ _ (w.heap.size + 1 + 1) _ _ _ _ ht h1 Tryz.underlying125 rfl (by rw [h2]; exact Tryz.infoJac)) hd ⟨_, rfl, h3 rfl, hw.b⟩
end Go.Proofs.YtkmmlfocidfghaaGreat
/-
  spec's l12Times and TimesPoint: some point, no more is said.
-/
namespace Go.Proofs.YtkmmlfocidfghaaGreat
open Go.RowKit
set_option maxRecDepth 8000 in
set_option maxHeartbeats 8000000 in
theorem times_in {w : World} {vp : Value} {m : ByteArray} {B : Pn × Pn} {B1 B2 B3 B4 : Option Addr} {m1 d1 m2 d2 m3 d3 m4 d4 : Nat} {n : Nat} (hm : okG m = true) (hL3 : bitLen (gV m) ≤ 1280) (hbp : ∀ i : Nat, i < bitLen (gV m) → bitG m (i : Int) = ((gV m / 2 ^ i % 2 : Nat) : Int)) (hb : PtX w (.agg (ptC false (.slice B1 m1 d1) (.slice B2 m2 d2) (.slice B3 m3 d3) (.slice B4 m4 d4))) (some B)) (hp : RowX w vp n) (i4 : InP2 n B.1) (i5 : InP2 n B.2) (hn : n < GB) (h1 : 1 < n) :
    Calls Tryz.prog 115 #[.string m, .agg (ptC false (.slice B1 m1 d1) (.slice B2 m2 d2) (.slice B3 m3 d3) (.slice B4 m4 d4)), vp] w (JPost n w) := by
  have HBs := Lib.hid (bitsOf_any m)
  have EB : bitsG m = (bitLen (gV m) : Int) := by unfold bitsG; rw [hm]; rfl
  rw [EB] at HBs
  have HBit : Hid (∀ i : Nat, i < bitLen (gV m) → ∀ w, Calls Tryz.prog 137 #[.string m, .int .i64 (i : Int)] w fun e w' => e = .returned (.int .i64 ((gV m / 2 ^ i % 2 : Nat) : Int)) ∧ w = w') := fun i hi w => by
    rw [← hbp i hi]
    exact bitOf_any m (i : Int) w (by omega)
  obtain ⟨M, hM⟩ : ∃ M, gV m = M := ⟨_, rfl⟩
  rw [hM] at HBs hL3 HBit
  obtain ⟨L, hL⟩ : ∃ L, bitLen M = L := ⟨_, rfl⟩
  rw [hL] at HBs hL3 HBit
  obtain ⟨pA, pn, pc, rfl⟩ := hp.shape
  have HP := Lib.hid hp
  have HB := Lib.hid hb
  have HI := Lib.hid (And.intro (And.intro i4 i5) (And.intro hn h1))
  obtain ⟨PB, hPB⟩ : ∃ q, ptC false (.slice B1 m1 d1) (.slice B2 m2 d2) (.slice B3 m3 d3) (.slice B4 m4 d4) = q := ⟨_, rfl⟩
  have sB : PB.size = 5 := by rw [← hPB]; rfl
  have zB : PB[0]? = some (.bool false) := by rw [← hPB]; rfl
  have HG := Lib.hid (begun2 (Held.none w) PB #[.slice none 0 0, .slice none 0 0, .slice none 0 0, .slice none 0 0, .slice none 0 0, .slice none 0 0] 58 125)
  rw [hPB] at HB ⊢
  clear hbp hm hb hp i4 i5 hn h1 EB hM hL hPB
  unfold JPost
  go_enter Tryz.func115, Tryz.ntmps115
  go_upto_region 1 with (fail)
  generalize (w.alloc _).alloc _ = v0 at *
  have AP := Lib.hid HG.out.h.apart
  have GE := Lib.hid HG.out.b.size
  have HN := Lib.hid (heap_alloc_new v0 (.cells #[.slice none 0 0, .slice none 0 0, .slice none 0 0, .slice none 0 0, .slice none 0 0, .slice none 0 0] 125))
  have bu := below_setRow2 ((Below.refl v0.heap.size v0).alloc (Nat.le_refl _) (.cells #[.slice none 0 0, .slice none 0 0, .slice none 0 0, .slice none 0 0, .slice none 0 0, .slice none 0 0] 125)) (Nat.le_refl _) #[.slice none 0 0, .slice none 0 0, .slice none 0 0, .slice none 0 0, .slice none 0 0, .slice none 0 0]
  have HT := Lib.hid (show TW w _ v0.heap.size PB _ _ (.slice pA pn pc) B ((0, 0), (0, 0), (0, 0)) n from ⟨(HG.out.new #[.slice none 0 0, .slice none 0 0, .slice none 0 0, .slice none 0 0, .slice none 0 0, .slice none 0 0] 125).putAt GE.out AP.out #[.slice none 0 0, .slice none 0 0, .slice none 0 0, .slice none 0 0, .slice none 0 0, .slice none 0 0], AP.out, GE.out, jac_none _, (HP.out.below HG.out.b).below bu, (HB.out.below HG.out.b).below bu, rfl⟩)
  go_upto_region 2 with (first | refine build_v rfl 125 rfl #[.slice none 0 0, .slice none 0 0, .slice none 0 0, .slice none 0 0, .slice none 0 0, .slice none 0 0] built_j0 ?_ | refine store_v rfl 125 (.tmp 7) (.tmp 9) rfl v0.heap.size _ #[.slice none 0 0, .slice none 0 0, .slice none 0 0, .slice none 0 0, .slice none 0 0, .slice none 0 0] rfl rfl HN.out Tryz.infoJac rfl (by kernel_rfl) ?_)
  generalize (v0.alloc _).setRow _ _ = t0 at *
  clear HG AP HN bu GE HP HB
  generalize v0.heap.size = g7 at *
  have HBb := Lib.hid (show t0.heap[w.heap.size]? = some (.cells PB 58 (0, 0)) from HT.out.g.h _ (.tail _ (.head _)))
  have zb : t0.cell? ⟨w.heap.size, 0, none⟩ = some (.bool false) := (cell_of_row t0 w.heap.size 0 _ _ _ HBb.out).trans zB
  go_wp2_with fail
  refine (HBs.out _).mono ?_
  rintro e w9 ⟨rfl, rfl⟩
  clear HBs zb HBb
  obtain ⟨q0, hq0⟩ : ∃ q : Array Value, #[.slice none 0 0, .slice none 0 0, .slice none 0 0, .slice none 0 0, .slice none 0 0, .slice none 0 0] = q := ⟨_, rfl⟩
  have HT2 : Hid (∃ ZJ, TW w t0 g7 PB q0 ZJ (.slice pA pn pc) B ((0, 0), (0, 0), (0, 0)) n ∧ ZJ.size = 6) := Lib.hid ⟨_, by rw [← hq0]; exact HT.out, rfl⟩
  clear HT hq0
  obtain ⟨ZJ, hT, sZ⟩ := HT2.out
  have HT := Lib.hid hT
  clear HT2 hT
  go_wp2
  go_loopw [8] (fun iv wr => ∃ (k : Nat) (q : Array Value) (a : Pn × Pn × Pn), k ≤ L ∧ iv = .int .i64 ((k : Int) - 1) ∧ Hid (TW w wr g7 PB q ZJ (.slice pA pn pc) B a n) ∧ Hid (InJ n a)) (fun iv _ => (intOf iv + 1).toNat)
  case atStart => exact ⟨L, q0, _, Nat.le_refl _, rfl, HT, Lib.hid (inJ_none (by have := HI.out.2.2; omega))⟩
  case round =>
    clear HT
    obtain ⟨k, q, a, hk, rfl, hP, ia⟩ := hrel
    by_cases hk0 : 0 < k
    · obtain ⟨i, rfl⟩ : ∃ i, k = i + 1 := ⟨k - 1, by omega⟩
      have hji : (((i + 1 : Nat) : Int) - 1) = (i : Int) := by omega
      rw [hji]
      have hi0 : (0 : Int) ≤ (i : Int) := by omega
      have s7 := hP.out.s
      have HX7 := Lib.hid (show wr.heap[g7]? = some (.cells q 125 (0, 0)) from hP.out.g.h _ (.head _))
      have T1 := Lib.hid (ltwice_in HI.out.2.2 HI.out.2.1 ⟨a, hP.out.r, ia.out⟩ hP.out.p)
      have HBi := Lib.hid (HBit.out i (by omega))
      obtain ⟨bt0, hbt⟩ : ∃ b, M / 2 ^ i % 2 = b := ⟨_, rfl⟩
      rw [hbt] at HBi
      have hb2 : bt0 = 0 ∨ bt0 = 1 := by omega
      clear hbt
      go_wp2_with (first | refine load_v rfl 125 (.tmp 7) rfl g7 q rfl HX7.out Tryz.underlying125 rfl (by rw [s7]; exact Tryz.infoJac) ?_)
      refine T1.out.mono ?_
      rintro e w3 ⟨v, rfl, ⟨aa, hv, ib0⟩, b3⟩
      have ib := Lib.hid ib0
      obtain ⟨q', rfl, s', o'⟩ := hv.q
      have HP3 := Lib.hid (hP.out.on b3)
      have HV3 := Lib.hid hv
      have HP4 := Lib.hid (HP3.out.put HV3.out s')
      have HX3 := Lib.hid (show w3.heap[g7]? = some (.cells q 125 (0, 0)) from HP3.out.g.h _ (.head _))
      clear hv b3 hP T1 HX7 HP3 HV3 ia ib0
      go_wp2_with (first | refine store_v rfl 125 (.tmp 7) (.tmp 22) rfl g7 _ q' rfl rfl HX3.out (by rw [s']; exact Tryz.infoJac) (by rw [s', s7]) o' ?_)
      generalize w3.setRow g7 q' = w4 at *
      refine (HBi.out _).mono ?_
      rintro e w6 ⟨rfl, rfl⟩
      clear HX3 HBi
      rcases hb2 with hb | hb
      · subst hb
        go_wp2
        go_roundw
        case rel => exact ⟨i, q', aa, by omega, by go_num, HP4, ib⟩
        case measure => simp [intOf]
      · subst hb
        have HX7 := Lib.hid (show w4.heap[g7]? = some (.cells q' 125 (0, 0)) from HP4.out.g.h _ (.head _))
        have HXB := Lib.hid (show w4.heap[w.heap.size]? = some (.cells PB 58 (0, 0)) from HP4.out.g.h _ (.tail _ (.head _)))
        have T2 := Lib.hid (lmore_in HI.out.2.2 HI.out.2.1 ⟨aa, HP4.out.r, ib.out⟩ HP4.out.b HI.out.1.1 HI.out.1.2 HP4.out.p)
        go_wp2_with (first | refine load_v rfl 125 (.tmp 7) rfl g7 q' rfl HX7.out Tryz.underlying125 rfl (by rw [s']; exact Tryz.infoJac) ?_ | refine load_v rfl 58 (.tmp 4) rfl w.heap.size PB rfl HXB.out Tryz.underlying58 rfl (by rw [sB]; exact Tryz.infoPt10) ?_)
        refine T2.out.mono ?_
        rintro e w6 ⟨v, rfl, ⟨ac, hv, ic0⟩, b6⟩
        have ic := Lib.hid ic0
        obtain ⟨q2, rfl, s2, o2⟩ := hv.q
        have HP6 := Lib.hid (HP4.out.on b6)
        have HP7 := Lib.hid (HP6.out.put hv s2)
        have HX6 := Lib.hid (show w6.heap[g7]? = some (.cells q' 125 (0, 0)) from HP6.out.g.h _ (.head _))
        clear hv b6 HP4 T2 HX7 HXB HP6 ic0
        go_wp2_with (first | refine store_v rfl 125 (.tmp 7) (.tmp 30) rfl g7 _ q2 rfl rfl HX6.out (by rw [s2]; exact Tryz.infoJac) (by rw [s2, s']) o2 ?_)
        generalize w6.setRow g7 q2 = w7 at *
        go_roundw
        case rel => exact ⟨i, q2, ac, by omega, by go_num, HP7, ic⟩
        case measure => simp [intOf]
    · have hk1 : k = 0 := by omega
      subst hk1
      have s7 := hP.out.s
      have HX7 := Lib.hid (show wr.heap[g7]? = some (.cells q 125 (0, 0)) from hP.out.g.h _ (.head _))
      have HE := Lib.hid (hP.out.g.put (show w.heap.size ≤ w.heap.size + 1 by omega) q)
      have HO := Lib.hid hP.out.g.out
      obtain ⟨q5, e5, _, o5⟩ := hP.out.r.q
      injection e5 with e5
      subst e5
      go_wp2_with (first | refine load_v rfl 125 (.tmp 7) rfl g7 q rfl HX7.out Tryz.underlying125 rfl (by rw [s7]; exact Tryz.infoJac) ?_ | refine store_v rfl 125 (.tmp 6) (.tmp 31) rfl (w.heap.size + 1) _ q rfl rfl HO.out (by rw [s7]; exact Tryz.infoJac) (by rw [s7, sZ]) o5 ?_)
      exact bodyPost_ret (results_cell_row Tryz.results115 _ _ (w.heap.size + 1) _ _ _ _ rfl HE.out.out Tryz.underlying125 rfl (by rw [s7]; exact Tryz.infoJac)) rfl ⟨_, rfl, ⟨a, hP.out.r.setRow HO.out (by decide), ia.out⟩, HE.out.b⟩
theorem ltimes_in {w : World} {vb vp : Value} {m : ByteArray} {Q : P2} {n : Nat} (hm : okG m = true) (hL3 : bitLen (gV m) ≤ 1280) (hbp : ∀ i : Nat, i < bitLen (gV m) → bitG m (i : Int) = ((gV m / 2 ^ i % 2 : Nat) : Int)) (hb : PtX w vb Q) (hp : RowX w vp n) (iq : InO n Q) (hn : n < GB) (h1 : 1 < n) :
    Calls Tryz.prog 115 #[.string m, vb, vp] w (JPost n w) := by
  obtain ⟨A1, n1, c1, A2, n2, c2, A3, n3, c3, A4, n4, c4, rfl⟩ := hb.cells
  cases Q with
  | none => exact times_none.mono fun _ _ h => jac_in (by omega) h
  | some B => exact times_in hm hL3 hbp hb hp iq.1 iq.2 hn h1
def TpTimes (w : World) (e : Ending) (w' : World) : Prop := ∃ (q : Tp) (b : Bool), e = .returned (.tuple #[.agg (tpT q), .bool b]) ∧ Below w.heap.size w w'
set_option maxRecDepth 8000 in
set_option maxHeartbeats 8000000 in
theorem timesPoint_some (id : Int) (m : ByteArray) (q : Tp) (w : World) (hL3 : okG m = true → bitLen (gV m) ≤ 1280) (hbp : okG m = true → ∀ i : Nat, i < bitLen (gV m) → bitG m (i : Int) = ((gV m / 2 ^ i % 2 : Nat) : Int)) : Calls Tryz.prog 81 #[.int .i64 id, .string m, .agg (tpT q)] w (TpTimes w) := by
  have HO := Lib.hid (pointOk_any id q)
  have HK := Lib.hid (greatOk_any m)
  have HG0 := Lib.hid (begun2 (Held.none w) (tpT q) #[.bool false, .string ⟨#[]⟩, .string ⟨#[]⟩] 25 25)
  have hge : w.heap.size ≤ w.heap.size + 1 := Nat.le_succ _
  have HGe := Lib.hid hge
  clear hge
  unfold TpTimes
  cases hq : pointB id q with
  | false =>
    rw [hq] at HO
    clear hq HK hL3 hbp
    go_enter Tryz.func81, Tryz.ntmps81
    go_upto_region 1 with (fail)
    generalize (w.alloc _).alloc _ = w0 at *
    have HH := Lib.hid (show _ = some (Obj.cells (tpT q) 25 (0, 0)) from HG0.out.h _ (.head _))
    go_wp2_with (first | refine load_v rfl 25 (.tmp 5) rfl w.heap.size (tpT q) rfl HH.out Tryz.underlying25 rfl Tryz.infoPoint ?_)
    refine (HO.out _).mono ?_
    rintro e w1 ⟨rfl, b1⟩
    have HG1 := Lib.hid (HG0.out.on b1)
    have HH1 := Lib.hid (show _ = some (Obj.cells (tpT q) 25 (0, 0)) from HG1.out.h _ (.head _))
    clear b1 HG0 HH HO
    have HE := Lib.hid (HG1.out.put HGe.out (tpT noT))
    go_wp2_with (first | refine store_v rfl 25 (.tmp 6) (.tmp 18) rfl (w.heap.size + 1) _ (tpT noT) rfl rfl HG1.out.out Tryz.infoPoint rfl (by kernel_rfl) ?_)
    exact bodyPost_ret (res_pt HE.out.out rfl Tryz.results81 _ rfl) rfl ⟨_, _, rfl, HE.out.b⟩
  | true =>
  rw [hq] at HO
  cases hm : okG m with
  | false =>
    rw [hm] at HK
    clear hq hm hL3 hbp
    go_enter Tryz.func81, Tryz.ntmps81
    go_upto_region 1 with (fail)
    generalize (w.alloc _).alloc _ = w0 at *
    have HH := Lib.hid (show _ = some (Obj.cells (tpT q) 25 (0, 0)) from HG0.out.h _ (.head _))
    go_wp2_with (first | refine load_v rfl 25 (.tmp 5) rfl w.heap.size (tpT q) rfl HH.out Tryz.underlying25 rfl Tryz.infoPoint ?_)
    refine (HO.out _).mono ?_
    rintro e w1 ⟨rfl, b1⟩
    have HG1 := Lib.hid (HG0.out.on b1)
    have HH1 := Lib.hid (show _ = some (Obj.cells (tpT q) 25 (0, 0)) from HG1.out.h _ (.head _))
    clear b1 HG0 HH HO
    go_wp2_with fail
    refine (HK.out _).mono ?_
    rintro e w9 ⟨rfl, rfl⟩
    clear HK
    have HE := Lib.hid (HG1.out.put HGe.out (tpT noT))
    go_wp2_with (first | refine store_v rfl 25 (.tmp 6) (.tmp 18) rfl (w.heap.size + 1) _ (tpT noT) rfl rfl HG1.out.out Tryz.infoPoint rfl (by kernel_rfl) ?_)
    exact bodyPost_ret (res_pt HE.out.out rfl Tryz.results81 _ rfl) rfl ⟨_, _, rfl, HE.out.b⟩
  | true =>
    rw [hm] at HK
    have F := point_fit hq
    have l3 := gV_lt (modB_parts (curve_fit F.cv).mp).1
    have l1 := (modB_parts (curve_fit F.cv).mp).2
    have HM := Lib.hid (And.intro hm (And.intro (hL3 hm) (hbp hm)))
    have HF := Lib.hid (And.intro F.s1 (And.intro F.s2 (And.intro (val_in F.on) (And.intro l3 l1))))
    have HI := Lib.hid (fun w => in_x (cvPT id) w (curve_fit F.cv).sp)
    have HCu := Lib.hid (l09Curve_any id)
    have HFd := Lib.hid (cv_field id)
    obtain ⟨Q, hQ⟩ : ∃ Q, val2 q = Q := ⟨_, rfl⟩
    have HQ := Lib.hid hQ
    rw [hQ] at HF
    clear hq F l3 l1 hQ hm hL3 hbp
    generalize cvC id = C at *
    generalize cvPT id = tp at *
    have HA0 : Hid (∀ (J : Pn × Pn × Pn) A, toJ (gV tp) J = some A → A.1.1 < SM ∧ A.2.1 < SM) := Lib.hid fun J A hA => by
      unfold toJ at hA
      split at hA
      · cases hA
      · injection hA with hA
        subst hA
        have hp0 : 0 < gV tp := by have := HF.out.2.2.2.2; omega
        have h := outJ_in hp0 J.1 J.2.1 J.2.2
        exact ⟨sm_one (Nat.lt_trans h.1.1 HF.out.2.2.2.1), sm_one (Nat.lt_trans h.2.1 HF.out.2.2.2.1)⟩
    go_enter Tryz.func81, Tryz.ntmps81
    go_upto_region 1 with (fail)
    generalize (w.alloc _).alloc _ = w0 at *
    have HH := Lib.hid (show _ = some (Obj.cells (tpT q) 25 (0, 0)) from HG0.out.h _ (.head _))
    go_wp2_with (first | refine load_v rfl 25 (.tmp 5) rfl w.heap.size (tpT q) rfl HH.out Tryz.underlying25 rfl Tryz.infoPoint ?_)
    refine (HO.out _).mono ?_
    rintro e w1 ⟨rfl, b1⟩
    have HG1 := Lib.hid (HG0.out.on b1)
    have HH1 := Lib.hid (show _ = some (Obj.cells (tpT q) 25 (0, 0)) from HG1.out.h _ (.head _))
    clear b1 HG0 HH HO
    go_wp2_with fail
    refine (HK.out _).mono ?_
    rintro e w9 ⟨rfl, rfl⟩
    clear HK
    go_wp2_with fail
    refine (HCu.out _).mono ?_
    rintro e w3 ⟨rfl, b3⟩
    have HG3 := Lib.hid (HG1.out.on b3)
    have hf := HFd.out w3
    clear b3 HG1 HH1 HCu
    go_wp2_with fail
    refine (HI.out _).mono ?_
    rintro e w4 ⟨v4, rfl, k4, b4⟩
    have HP := Lib.hid k4
    have HG4 := Lib.hid (HG3.out.on b4)
    have HH4 := Lib.hid (show _ = some (Obj.cells (tpT q) 25 (0, 0)) from HG4.out.h _ (.head _))
    obtain ⟨A4, n4, c4, rfl⟩ := k4.shape
    clear b4 k4 HG3 HI hf
    go_wp2_with (first | refine load_v rfl 25 (.tmp 5) rfl w.heap.size (tpT q) rfl HH4.out Tryz.underlying25 rfl Tryz.infoPoint ?_)
    refine (in10_x q _ HF.out.1 HF.out.2.1).mono ?_
    rintro e w2 ⟨A1, n1, c1, A2, n2, c2, rfl, k1, k2, b2⟩
    have HX := Lib.hid (in10_pt k1 k2)
    rw [HQ.out] at HX
    have HG2 := Lib.hid (HG4.out.on b2)
    have HP2 := Lib.hid (HP.out.below b2)
    clear k1 k2 b2 HG4 HH4 HP
    generalize ptC q.1 _ _ _ _ = D at *
    go_wp2_with fail
    refine (ltimes_in HM.out.1 HM.out.2.1 HM.out.2.2 HX.out HP2.out HF.out.2.2.1 HF.out.2.2.2.1 HF.out.2.2.2.2).mono ?_
    rintro e w5 ⟨v5, rfl, ⟨J, k5, iJ0⟩, b5⟩
    have HJ := Lib.hid iJ0
    have HA := Lib.hid (HA0.out J)
    have HX5 := Lib.hid k5
    have HG5 := Lib.hid (HG2.out.on b5)
    have HP5 := Lib.hid (HP2.out.below b5)
    obtain ⟨q5, rfl, s5, o5⟩ := k5.q
    clear b5 k5 HG2 HX HP2 iJ0 HA0
    go_wp2_with fail
    refine (lout12_x HX5.out HP5.out HJ.out.1 HJ.out.2.1 HJ.out.2.2 HF.out.2.2.2.1 HF.out.2.2.2.2).mono ?_
    rintro e w6 ⟨v6, rfl, k6, b6⟩
    have HX6 := Lib.hid k6
    have HG6 := Lib.hid (HG5.out.on b6)
    obtain ⟨A5, n5, c5, A6, n6, c6, A7, n7, c7, A8, n8, c8, rfl⟩ := k6.cells
    clear b6 k6 HG5 HX5 HP5
    generalize ptC _ (.slice A5 n5 c5) _ _ _ = D5 at *
    go_wp2_with fail
    refine (out10_x HX6.out HA.out).mono ?_
    rintro e w7 ⟨rfl, b7⟩
    have HG7 := Lib.hid (HG6.out.on b7)
    have HE := Lib.hid (HG7.out.put HGe.out (tpT (txt2 (toJ (gV tp) J))))
    clear b7 HG6 HX6
    go_wp2_with (first | refine store_v rfl 25 (.tmp 6) (.tmp 30) rfl (w.heap.size + 1) _ (tpT (txt2 (toJ (gV tp) J))) rfl rfl HG7.out.out Tryz.infoPoint rfl (by kernel_rfl) ?_)
    exact bodyPost_ret (res_pt HE.out.out rfl Tryz.results81 _ rfl) rfl ⟨_, _, rfl, HE.out.b⟩
end Go.Proofs.YtkmmlfocidfghaaGreat

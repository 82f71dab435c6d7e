import Derived.Test.YtkmmlfocidfghaaGreatJRests
import Derived.Test.YtkmmlfocidfghaaGreatSeqC
import Derived.Test.YtkmmlfocidfghaaGreatUHeld
namespace Go.Proofs.YtkmmlfocidfghaaGreat
open Go.RowKit
/-- A row and its count. -/
structure Rw where
  l : List Nat
  c : Nat
def Rw.C (r : Rw) : Array Value := rowC r.l r.c
/-- It is a right row of this number. -/
structure Rw.Ok (r : Rw) (x : Nat) : Prop where
  len : r.l.length = 81
  v : RV r.l r.c
  e : W.lV r.l = x
theorem Rw.Ok.size {r : Rw} {x : Nat} (h : r.Ok x) : r.C.size = 82 := rowC_size82 h.len
theorem cells_load {w : World} {g : Nat} {C : Array Value} {t t' : TypeId} {d : TypeDesc} (hg : w.heap[g]? = some (.cells C t (0, 0))) (hu : Tryz.prog.underlying t' = some d) (hd : d.isRow = true) (hi : (Tryz.prog.info? t').map (·.size) = some C.size) : (Instr.loadAt t' (.pointer (some ⟨g, 0, none⟩))).run Tryz.prog w = .ok (.agg C) w := by
  have e := run_loadAt_mid (P := Tryz.prog) w g 0 t' C.toList _ (fun j v hv => by rw [Nat.zero_add, cell_of_row w g j _ _ _ hg]; simpa using hv) hu hd (by rw [Array.length_toList]; exact hi)
  simpa using e
section
variable {P : Program} {S : World → Prop} {o : Oper} {a : Act}
/-- A load whose run is known wherever S holds. -/
theorem held_load (t : TypeId) (x : Operand) (ho : o.op = .load t x) (p v : Value) (hx : a.eval x = p) (h : ∀ w, S w → (Instr.loadAt t p).run P w = .ok v w) : ∀ w', S w' → (execOp a.eval o).run P w' = .ok (.value v) w' := fun w' hw => by
  unfold execOp
  rw [ho]
  simp only [hx]
  simp [h w' hw]
theorem held_build (t : TypeId) (parts : Array (Nat × Operand)) (ho : o.op = .build t parts) (ps : List (Nat × Value)) (hp : (parts.toList.map fun q => (q.1, a.eval q.2)) = ps) (cells : Array Value) (hb : P.built t ps = some cells) : ∀ w', (execOp a.eval o).run P w' = .ok (.value (.agg cells)) w' := fun w' => by
  unfold execOp
  rw [ho]
  simp only
  have e := run_build (P := P) w' t (parts.map fun q => (q.1, a.eval q.2)) cells (by rw [Array.toList_map, hp]; exact hb)
  simp [e]
end
/-- Parts put into cells. -/
theorem fold_set (off : Nat) : ∀ (l : List Value) (k : Nat) (C : Array Value), off + k + l.length ≤ C.size →
    (l.zipIdx k).foldl (fun cs (c, j) => cs.setIfInBounds (off + j) c) C = (C.toList.take (off + k) ++ l ++ C.toList.drop (off + k + l.length)).toArray
  | [], k, C, h => by simp
  | v :: l, k, C, h => by
    simp only [List.length_cons] at h
    rw [List.zipIdx_cons, List.foldl_cons, fold_set off l (k + 1) _ (by simp; omega)]
    congr 1
    apply List.ext_getElem?
    intro i
    simp only [Array.toList_setIfInBounds, List.getElem?_append, List.length_append, List.length_take, List.length_set, List.length_cons, Array.length_toList, List.getElem?_take, List.getElem?_drop, List.getElem?_set]
    by_cases h1 : i < off + k
    · simp [h1, show i < off + (k + 1) by omega, show i < min (off + (k + 1)) C.size by omega, show i < min (off + k) C.size by omega, show off + k ≠ i by omega, show i < min (off + (k + 1)) C.size + l.length by omega, show i < min (off + k) C.size + (l.length + 1) by omega]
    · by_cases h2 : i = off + k
      · subst h2
        simp [show off + k < off + (k + 1) by omega, show off + k < min (off + (k + 1)) C.size by omega, show ¬ off + k < min (off + k) C.size by omega, show off + k < C.size by omega, show off + k < min (off + (k + 1)) C.size + l.length by omega, show off + k < min (off + k) C.size + (l.length + 1) by omega, show off + k - min (off + k) C.size = 0 by omega]
      · have e1 : min (off + (k + 1)) C.size = off + k + 1 := by omega
        have e2 : min (off + k) C.size = off + k := by omega
        rw [e1, e2]
        by_cases h3 : i < off + k + 1 + l.length
        · simp [show ¬ i < off + k + 1 by omega, show ¬ i < off + k by omega, h3, show i < off + k + (l.length + 1) by omega, show i - (off + k) = (i - (off + k + 1)) + 1 by omega]
        · rw [if_neg h3, if_neg (show ¬ i < off + k + (l.length + 1) by omega), if_neg (show off + k ≠ off + (k + 1) + l.length + (i - (off + k + 1 + l.length)) by omega)]
          congr 1
          omega
theorem fill_step {place : Nat → Option (Nat × Nat)} {i off n : Nat} {R pre mid post : Array Value} {v : Value} {rest : List (Nat × Value)} (hv : v.cells = R) (hp : place i = some (off, n)) (hR : R.size = n) (ho : pre.size = off) (hm : mid.size = n) :
    Instr.fill place (pre ++ mid ++ post) ((i, v) :: rest) = Instr.fill place (pre ++ R ++ post) rest := by
  rw [Instr.fill]
  simp only [hp]
  rw [hv]
  have h2 : ¬ (R.size ≠ n ∨ off + R.size > (pre ++ mid ++ post).size) := by simp; omega
  simp only [ne_eq, Bool.or_eq_true, decide_eq_true_eq, h2]
  rw [if_neg (by simp)]
  congr 1
  have e := fold_set off R.toList 0 (pre ++ mid ++ post) (by simp; omega)
  rw [← Array.foldl_toList, Array.toList_zipIdx, e]
  subst ho
  apply Array.ext'
  simp only [Array.toList_append, Nat.add_zero, Array.length_toList]
  rw [hR, ← hm, List.append_assoc pre.toList, ← List.drop_drop, ← Array.length_toList, List.drop_left, ← Array.length_toList (xs := mid), List.drop_left, List.take_left]
theorem built_struct {P : Program} {t : TypeId} {it : TypeInfo} {fields : Array Field} {z : Value} {places : List (Nat × Nat)} (h1 : P.info? t = some it) (h2 : P.underlying t = some (.struct fields)) (h3 : it.zero = some z) (h4 : fields.toList.mapM (fun f => (P.info? f.type).map fun i => (f.offset, i.size)) = some places) (parts : List (Nat × Value)) :
    P.built t parts = Instr.fill (places.toArray[·]?) z.cells parts := by
  unfold Program.built
  simp [h1, h2, h3, h4]
def structParts (P : Program) (t : TypeId) : Option (Value × List (Nat × Nat)) :=
  match P.info? t, P.underlying t with
  | some it, some (.struct fields) =>
    match it.zero, fields.toList.mapM (fun f => (P.info? f.type).map fun i => (f.offset, i.size)) with
    | some z, some places => some (z, places)
    | _, _ => none
  | _, _ => none
theorem built_parts {P : Program} {t : TypeId} {z : Value} {places : List (Nat × Nat)} (h : structParts P t = some (z, places)) (parts : List (Nat × Value)) : P.built t parts = Instr.fill (places.toArray[·]?) z.cells parts := by
  unfold structParts at h
  split at h
  · rename_i it fields h1 h2
    split at h
    · rename_i z' pl h3 h4
      simp only [Option.some.injEq, Prod.mk.injEq] at h
      obtain ⟨rfl, rfl⟩ := h
      exact built_struct h1 h2 h3 h4 parts
    · cases h
  · cases h
section
variable {P : Program} {ops : Array Oper} {Q : Exit → Act → World → Prop} {S : World → Prop} {K : Act → World → Prop} {i : Nat} {r : List (Bool × Nat)} {a : Act} {w : World}
/-- A variable made, zero. -/
theorem sq_alloc (d : Option Tmp) (t : TypeId) (Z : Array Value) (hd : (oAt ops i).dst = d) (hi : Nat.blt i ops.size = true) (hw : Region.wanted (oAt ops i) (yielded ops a.tmps) = true) (ho : (oAt ops i).op = .alloc t) (hz : (zeroValue t).run P w = .ok (.agg Z) w) (hS : S (w.alloc (.cells Z t)))
    (k : seqH P ops Q S K r (a.put d (.pointer (some ⟨w.heap.size, 0, none⟩))) (w.alloc (.cells Z t))) : seqH P ops Q S K ((false, i) :: r) a w := by
  refine sq_op hi hw ?_
  have e : (execOp a.eval (oAt ops i)).run P w = .ok (.value (.pointer (some ⟨w.heap.size, 0, none⟩))) (w.alloc (.cells Z t)) := by
    unfold execOp
    rw [ho]
    simp only
    unfold Instr.alloc
    simp [hz, newVar, newRow, Value.cells]
  unfold Oper.wp
  rw [e, Oper.upon_value, hd]
  exact ⟨hS, k⟩
end
/-! Blocks that stand. -/
theorem Held.setRow {w : World} {L : List (Nat × Array Value × TypeId)} {o : Nat} {C : Array Value} (h : Held w L) (ne : ∀ q ∈ L, q.1 ≠ o) : Held (w.setRow o C) L := fun q hq => (setRow_other _ _ _ _ (ne q hq)).trans (h q hq)
theorem stays {w w' : World} {g : Nat} {o : Obj} (b : Below w.heap.size w w') (h : w.heap[g]? = some o) : w'.heap[g]? = some o := (b.block _ (Array.getElem?_eq_some_iff.1 h).1).trans h
theorem Held.drew {w : World} {L : List (Nat × Array Value × TypeId)} (h : Held w L) : Held w.drew L := h
/-- Blocks of the caller's, blocks made for the arguments, and the result's. -/
structure Begun (w w' : World) (L : List (Nat × Array Value × TypeId)) (o : Nat) (Z : Array Value) (t : TypeId) : Prop where
  h : Held w' L
  out : w'.heap[o]? = some (.cells Z t (0, 0))
  ne : ∀ q ∈ L, q.1 ≠ o
  b : Below w.heap.size w w'
theorem Begun.drew {w w' : World} {L : List (Nat × Array Value × TypeId)} {o : Nat} {Z : Array Value} {t : TypeId} (h : Begun w w' L o Z t) : Begun w w'.drew L o Z t := ⟨h.h, h.out, h.ne, ⟨h.b.os, h.b.tape, h.b.output, h.b.size, h.b.block⟩⟩
theorem begun1 {w : World} {L : List (Nat × Array Value × TypeId)} (h : Held w L) (Z : Array Value) (t : TypeId) : Begun w (w.alloc (.cells Z t)) L w.heap.size Z t :=
  ⟨h.on ((Below.refl _ _).alloc (Nat.le_refl _) _), heap_alloc_new w _, h.apart, (Below.refl _ _).alloc (Nat.le_refl _) _⟩
theorem begun2 {w : World} {L : List (Nat × Array Value × TypeId)} (h : Held w L) (A Z : Array Value) (tA t : TypeId) : Begun w ((w.alloc (.cells A tA)).alloc (.cells Z t)) ((w.heap.size, A, tA) :: L) (w.heap.size + 1) Z t := by
  have h1 := (h.on ((Below.refl w.heap.size w).alloc (Nat.le_refl _) (.cells A tA))).cons (heap_alloc_new w (.cells A tA))
  have h2 := begun1 h1 Z t
  have e : (w.alloc (.cells A tA)).heap.size = w.heap.size + 1 := by simp
  rw [e] at h2
  exact ⟨h2.h, h2.out, h2.ne, ((Below.refl _ _).alloc (Nat.le_refl _) _).alloc (by simp) _⟩
theorem begun3 {w : World} {L : List (Nat × Array Value × TypeId)} (h : Held w L) (A B Z : Array Value) (tA tB t : TypeId) : Begun w (((w.alloc (.cells A tA)).alloc (.cells B tB)).alloc (.cells Z t)) ((w.heap.size + 1, B, tB) :: (w.heap.size, A, tA) :: L) (w.heap.size + 1 + 1) Z t := by
  have h1 := (h.on ((Below.refl w.heap.size w).alloc (Nat.le_refl _) (.cells A tA))).cons (heap_alloc_new w (.cells A tA))
  have h2 := begun2 h1 B Z tB t
  have e : (w.alloc (.cells A tA)).heap.size = w.heap.size + 1 := by simp
  rw [e] at h2
  exact ⟨h2.h, h2.out, h2.ne, (((Below.refl _ _).alloc (Nat.le_refl _) _).alloc (by simp) _).alloc (by simp; omega) _⟩
theorem Begun.on {w w' w'' : World} {L : List (Nat × Array Value × TypeId)} {o : Nat} {Z : Array Value} {t : TypeId} (h : Begun w w' L o Z t) (b : Below w'.heap.size w' w'') : Begun w w'' L o Z t := ⟨h.h.on b, stays b h.out, h.ne, bt h.b b⟩
theorem Begun.put {w w' : World} {L : List (Nat × Array Value × TypeId)} {o : Nat} {Z : Array Value} {t : TypeId} (h : Begun w w' L o Z t) (ho : w.heap.size ≤ o) (C : Array Value) : Begun w (w'.setRow o C) L o C t := ⟨h.h.setRow h.ne, setRow_heap _ _ _ _ _ _ h.out, h.ne, below_setRow2 h.b ho _⟩
theorem str_load {w : World} {g k : Nat} {s : ByteArray} (h : w.cell? ⟨g, k, none⟩ = some (.string s)) : (Instr.loadAt 9 (.pointer (some ⟨g, k, none⟩))).run Tryz.prog w = .ok (.string s) w := by
  go_simp
/-- One more block, made behind the rest. -/
theorem Begun.new {w w' : World} {L : List (Nat × Array Value × TypeId)} {o : Nat} {Z : Array Value} {t : TypeId} (h : Begun w w' L o Z t) (C : Array Value) (tC : TypeId) : Begun w (w'.alloc (.cells C tC)) ((w'.heap.size, C, tC) :: L) o Z t := by
  have b : Below w'.heap.size w' (w'.alloc (.cells C tC)) := (Below.refl _ _).alloc (Nat.le_refl _) _
  refine ⟨(h.h.on b).cons (heap_alloc_new w' _), stays b h.out, fun q hq => ?_, bt h.b b⟩
  rcases List.mem_cons.1 hq with rfl | hq
  · have := (Array.getElem?_eq_some_iff.1 h.out).1
    show w'.heap.size ≠ o
    omega
  · exact h.ne q hq
/-- A block of the call's own, written. -/
theorem Begun.putAt {w w' : World} {L : List (Nat × Array Value × TypeId)} {o g : Nat} {Z C : Array Value} {t tC : TypeId} (h : Begun w w' ((g, C, tC) :: L) o Z t) (hg : w.heap.size ≤ g) (ap : ∀ q ∈ L, q.1 ≠ g) (C' : Array Value) : Begun w (w'.setRow g C') ((g, C', tC) :: L) o Z t := by
  have hgo : g ≠ o := h.ne _ (List.mem_cons_self)
  refine ⟨(h.h.tail.setRow ap).cons (setRow_heap _ _ _ _ _ _ (h.h _ List.mem_cons_self)), (setRow_other _ _ _ _ (Ne.symm hgo)).trans h.out, fun q hq => ?_, below_setRow2 h.b hg _⟩
  rcases List.mem_cons.1 hq with rfl | hq
  · exact hgo
  · exact h.ne q (List.mem_cons_of_mem _ hq)
/-- The operations 'store' and 'load' of whole values, in a plain region. -/
theorem store_v {ops : Array Oper} {rest : List Oper} {o : Oper} {a : Act} {w : World} {Q : Exit → Act → World → Prop} (hgd : o.guard = none) (t : TypeId) (x y : Operand) (ho : o.op = .store t x y) (g : Nat) (C C' : Array Value)
    (hx : a.eval x = .pointer (some ⟨g, 0, none⟩)) (hy : a.eval y = .agg C') {t0 : TypeId} (h : w.heap[g]? = some (.cells C t0 (0, 0))) (hs : (Tryz.prog.info? t).map (·.size) = some C'.size) (hc : C.size = C'.size) (h1 : C'.all (·.oneCell') = true) (k : wpList Tryz.prog ops Q rest (a.put o.dst undef) (w.setRow g C')) : wpList Tryz.prog ops Q (o :: rest) a w :=
  wpList_plain hgd fun _ hK => wp_store_row _ x y ho g _ hx hy _ _ h hs hc h1 (hK _ _ k)
theorem load_v {ops : Array Oper} {rest : List Oper} {o : Oper} {a : Act} {w : World} {Q : Exit → Act → World → Prop} (hgd : o.guard = none) (t : TypeId) (x : Operand) (ho : o.op = .load t x) (g : Nat) (C : Array Value)
    (hx : a.eval x = .pointer (some ⟨g, 0, none⟩)) {t0 : TypeId} (h : w.heap[g]? = some (.cells C t0 (0, 0))) {d : TypeDesc} (hu : Tryz.prog.underlying t = some d) (hd : d.isRow = true) (hs : (Tryz.prog.info? t).map (·.size) = some C.size) (k : wpList Tryz.prog ops Q rest (a.put o.dst (.agg C)) w) : wpList Tryz.prog ops Q (o :: rest) a w := by
  refine wpList_plain hgd fun K hK => ?_
  unfold Oper.wp execOp
  simp only [ho, hx]
  have e := cells_load h hu hd hs
  simp [e]
  exact hK _ _ k
theorem build_v {ops : Array Oper} {rest : List Oper} {o : Oper} {a : Act} {w : World} {Q : Exit → Act → World → Prop} (hgd : o.guard = none) (t : TypeId) (ho : o.op = .build t #[]) (C : Array Value) (hb : Tryz.prog.built t [] = some C) (k : wpList Tryz.prog ops Q rest (a.put o.dst (.agg C)) w) : wpList Tryz.prog ops Q (o :: rest) a w := by
  refine wpList_plain hgd fun K hK => ?_
  unfold Oper.wp execOp
  simp only [ho]
  have e := run_build (P := Tryz.prog) w t #[] C hb
  simp [e]
  exact hK _ _ k
end Go.Proofs.YtkmmlfocidfghaaGreat

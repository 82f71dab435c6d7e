import Derived.Test.YtdajgcgliidjbaaGreatJRests
import Derived.Test.YtdajgcgliidjbaaGreatSeqC
import Derived.Test.YtdajgcgliidjbaaGreatUOps
namespace Go.Proofs.YtdajgcgliidjbaaGreat
open Go.RowKit
structure Rw where
 l : List Nat
 c : Nat
def Rw.C (r : Rw) : Array Value := rowC r.l r.c
structure Rw.Ok (r : Rw) (x : Nat) : Prop where
 len : r.l.length = 81
 v : RV r.l r.c
 e : W.lV r.l = x
theorem Rw.Ok.size {r : Rw} {x : Nat} (h : r.Ok x) : r.C.size = 82 := rowC_size82 h.len
def triC (p a b : Rw) : Array Value := p.C ++ a.C ++ b.C
structure Tri (n : Nat) (x : Pn) (p a b : Rw) : Prop where
 hp : p.Ok n
 ha : a.Ok x.1
 hb : b.Ok x.2
theorem Tri.size {n : Nat} {x : Pn} {p a b : Rw} (h : Tri n x p a b) : (triC p a b).size = 246 := by
 unfold triC
 rw [Array.size_append, Array.size_append, h.hp.size, h.ha.size, h.hb.size]
theorem tri_one (p a b : Rw) : (triC p a b).all (·.oneCell') = true := by
 unfold triC Rw.C
 rw [Array.all_append, Array.all_append, rowC_one, rowC_one, rowC_one]; rfl
def RwPost (x : Nat) (w : World) (e : Ending) (w' : World) : Prop := ∃ r : Rw, e = .returned (.agg r.C) ∧ r.Ok x ∧ Below w.heap.size w w'
def TriPost (n : Nat) (x : Pn) (w : World) (e : Ending) (w' : World) : Prop := ∃ p a b : Rw, e = .returned (.agg (triC p a b)) ∧ Tri n x p a b ∧ Below w.heap.size w w'
theorem rw_post {x : Nat} {w w' : World} {e : Ending} {P : List Nat → Nat → Prop} (h : AggPost P w e w') (hP : ∀ l c, P l c → W.lV l = x) : RwPost x w e w' := by
 obtain ⟨l, c, rfl, hl, v, hp, b⟩ := h
 exact ⟨⟨l, c⟩, rfl, ⟨hl, v, hP l c hp⟩, b⟩
theorem Tri.rowP {w : World} {g n : Nat} {x : Pn} {p a b : Rw} {t : TypeId} (h : Tri n x p a b) (hg : w.heap[g]? = some (.cells (triC p a b) t (0, 0))) : RowA w g p.l p.c := ⟨h.hp.len, a.C ++ b.C, t, by
 rw [hg]; unfold triC Rw.C; rw [Array.append_assoc]⟩
theorem Tri.rowA {w : World} {g n : Nat} {x : Pn} {p a b : Rw} {t : TypeId} (h : Tri n x p a b) (hg : w.heap[g]? = some (.cells (triC p a b) t (0, 0))) : RowP w g 82 a.l a.c := ⟨h.ha.len, p.C, b.C, t, hg, h.hp.size⟩
theorem Tri.rowB {w : World} {g n : Nat} {x : Pn} {p a b : Rw} {t : TypeId} (h : Tri n x p a b) (hg : w.heap[g]? = some (.cells (triC p a b) t (0, 0))) : RowP w g 164 b.l b.c := ⟨h.hb.len, p.C ++ a.C, #[], t, by
 rw [hg]; unfold triC; rw [Array.append_empty]; rfl, by rw [Array.size_append, h.hp.size, h.ha.size]⟩
theorem Tryz.infoTri : (Tryz.prog.info? 104).map (·.size) = some 246 := by kernel_rfl
theorem Tryz.infoPrime : (Tryz.prog.info? 102).map (·.size) = some 82 := by kernel_rfl
theorem Tryz.infoLimb : (Tryz.prog.info? 100).map (·.size) = some 82 := by kernel_rfl
theorem RowP.loadT {w : World} {g o c : Nat} {l : List Nat} (h : RowP w g o l c) (t : TypeId) {d : TypeDesc} (hu : Tryz.prog.underlying t = some d) (hd : d.isRow = true) (hi : (Tryz.prog.info? t).map (·.size) = some 82) :
  (Instr.loadAt t (.pointer (some ⟨g, o, none⟩))).run Tryz.prog w = .ok (.agg (rowC l c)) w := by
 have e := run_loadAt_mid (P := Tryz.prog) w g o t (rowC l c).toList _ h.range hu hd (by rw [Array.length_toList, rowC_size82 h.len]; exact hi)
 simpa using e
theorem RowP.loadL {w : World} {g o : Nat} {r : Rw} (h : RowP w g o r.l r.c) : (Instr.loadAt 100 (.pointer (some ⟨g, o, none⟩))).run Tryz.prog w = .ok (.agg r.C) w := h.loadT _ Tryz.underlying100 rfl Tryz.infoLimb
theorem RowP.loadM {w : World} {g o : Nat} {r : Rw} (h : RowP w g o r.l r.c) : (Instr.loadAt 102 (.pointer (some ⟨g, o, none⟩))).run Tryz.prog w = .ok (.agg r.C) w := h.loadT _ Tryz.underlying102 rfl Tryz.infoPrime
theorem row_loadL {w : World} {g : Nat} {r : Rw} {x : Nat} {t : TypeId} (h : r.Ok x) (hg : w.heap[g]? = some (.cells r.C t (0, 0))) : (Instr.loadAt 100 (.pointer (some ⟨g, 0, none⟩))).run Tryz.prog w = .ok (.agg r.C) w :=
 RowP.loadL ⟨h.len, #[], #[], t, by rw [hg]; unfold Rw.C; simp, rfl⟩
theorem cells_load {w : World} {g : Nat} {C : Array Value} {t t' : TypeId} {d : TypeDesc} (hg : w.heap[g]? = some (.cells C t (0, 0))) (hu : Tryz.prog.underlying t' = some d) (hd : d.isRow = true) (hi : (Tryz.prog.info? t').map (·.size) = some C.size) : (Instr.loadAt t' (.pointer (some ⟨g, 0, none⟩))).run Tryz.prog w = .ok (.agg C) w := by
 have e := run_loadAt_mid (P := Tryz.prog) w g 0 t' C.toList _ (fun j v hv => by rw [Nat.zero_add, cell_of_row w g j _ _ _ hg]; simpa using hv) hu hd (by rw [Array.length_toList]; exact hi)
 simpa using e
theorem pair_load {w : World} {g : Nat} {x : Pt} {t : TypeId} (hg : w.heap[g]? = some (.cells (aggT x) t (0, 0))) : (Instr.loadAt 25 (.pointer (some ⟨g, 0, none⟩))).run Tryz.prog w = .ok (.agg (aggT x)) w := cells_load hg Tryz.underlying25 rfl Tryz.infoP
section
variable {P : Program} {S : World → Prop} {o : Oper} {a : Act}
theorem held_build (t : TypeId) (parts : Array (Nat × Operand)) (ho : o.op = .build t parts) (ps : List (Nat × Value)) (hp : (parts.toList.map fun q => (q.1, a.eval q.2)) = ps) (cells : Array Value) (hb : P.built t ps = some cells) : ∀ w', (execOp a.eval o).run P w' = .ok (.value (.agg cells)) w' := fun w' => by
 unfold execOp
 rw [ho]
 simp only
 have e := run_build (P := P) w' t (parts.map fun q => (q.1, a.eval q.2)) cells (by rw [Array.toList_map, hp]; exact hb)
 simp [e]
end
theorem fold_set (off : Nat) : ∀ (l : List Value) (k : Nat) (C : Array Value), off + k + l.length ≤ C.size →
  (l.zipIdx k).foldl (fun cs (c, j) => cs.setIfInBounds (off + j) c) C = (C.toList.take (off + k) ++ l ++ C.toList.drop (off + k + l.length)).toArray
 | [], k, C, h => by simp
 | v :: l, k, C, h => by
  simp only [List.length_cons] at h
  rw [List.zipIdx_cons, List.foldl_cons, fold_set off l (k + 1) _ (by simp; omega)]
  congr 1
  apply List.ext_getElem?
  intro i
  simp only [Array.toList_setIfInBounds, List.getElem?_append, List.length_append, List.length_take, List.length_set, List.length_cons, Array.length_toList, List.getElem?_take, List.getElem?_drop, List.getElem?_set]
  by_cases h1 : i < off + k
  ·simp [h1, show i < off + (k + 1) by omega, show i < min (off + (k + 1)) C.size by omega, show i < min (off + k) C.size by omega, show off + k ≠ i by omega, show i < min (off + (k + 1)) C.size + l.length by omega, show i < min (off + k) C.size + (l.length + 1) by omega]
  ·by_cases h2 : i = off + k
   ·subst h2
    simp [show off + k < off + (k + 1) by omega, show off + k < min (off + (k + 1)) C.size by omega, show ¬ off + k < min (off + k) C.size by omega, show off + k < C.size by omega, show off + k < min (off + (k + 1)) C.size + l.length by omega, show off + k < min (off + k) C.size + (l.length + 1) by omega, show off + k - min (off + k) C.size = 0 by omega]
   ·have e1 : min (off + (k + 1)) C.size = off + k + 1 := by omega
    have e2 : min (off + k) C.size = off + k := by omega
    rw [e1, e2]
    by_cases h3 : i < off + k + 1 + l.length
    ·simp [show ¬ i < off + k + 1 by omega, show ¬ i < off + k by omega, h3, show i < off + k + (l.length + 1) by omega, show i - (off + k) = (i - (off + k + 1)) + 1 by omega]
    ·rw [if_neg h3, if_neg (show ¬ i < off + k + (l.length + 1) by omega), if_neg (show off + k ≠ off + (k + 1) + l.length + (i - (off + k + 1 + l.length)) by omega)]
     congr 1
     omega
theorem fill_step {place : Nat → Option (Nat × Nat)} {i off n : Nat} {R pre mid post : Array Value} {v : Value} {rest : List (Nat × Value)} (hv : v.cells = R) (hp : place i = some (off, n)) (hR : R.size = n) (ho : pre.size = off) (hm : mid.size = n) :
  Instr.fill place (pre ++ mid ++ post) ((i, v) :: rest) = Instr.fill place (pre ++ R ++ post) rest := by
 rw [Instr.fill]
 simp only [hp]
 rw [hv]
 have h2 : ¬ (R.size ≠ n ∨ off + R.size > (pre ++ mid ++ post).size) := by simp; omega
 simp only [ne_eq, Bool.or_eq_true, decide_eq_true_eq, h2]
 rw [if_neg (by simp)]
 congr 1
 have e := fold_set off R.toList 0 (pre ++ mid ++ post) (by simp; omega)
 rw [← Array.foldl_toList, Array.toList_zipIdx, e]
 subst ho
 apply Array.ext'
 simp only [Array.toList_append, Nat.add_zero, Array.length_toList]
 rw [hR, ← hm, List.append_assoc pre.toList, ← List.drop_drop, ← Array.length_toList, List.drop_left, ← Array.length_toList (xs := mid), List.drop_left, List.take_left]
theorem built_struct {P : Program} {t : TypeId} {it : TypeInfo} {fields : Array Field} {z : Value} {places : List (Nat × Nat)} (h1 : P.info? t = some it) (h2 : P.underlying t = some (.struct fields)) (h3 : it.zero = some z) (h4 : fields.toList.mapM (fun f => (P.info? f.type).map fun i => (f.offset, i.size)) = some places) (parts : List (Nat × Value)) :
  P.built t parts = Instr.fill (places.toArray[·]?) z.cells parts := by
 unfold Program.built
 simp [h1, h2, h3, h4]
def structParts (P : Program) (t : TypeId) : Option (Value × List (Nat × Nat)) :=
 match P.info? t, P.underlying t with
 | some it, some (.struct fields) =>
  match it.zero, fields.toList.mapM (fun f => (P.info? f.type).map fun i => (f.offset, i.size)) with
  | some z, some places => some (z, places)
  | _, _ => none
 | _, _ => none
theorem built_parts {P : Program} {t : TypeId} {z : Value} {places : List (Nat × Nat)} (h : structParts P t = some (z, places)) (parts : List (Nat × Value)) : P.built t parts = Instr.fill (places.toArray[·]?) z.cells parts := by
 unfold structParts at h
 split at h
 ·rename_i it fields h1 h2
  split at h
  ·rename_i z' pl h3 h4
   simp only [Option.some.injEq, Prod.mk.injEq] at h
   obtain ⟨rfl, rfl⟩ := h
   exact built_struct h1 h2 h3 h4 parts
  ·cases h
 ·cases h
theorem Tryz.partsTri : (structParts Tryz.prog 104).map (fun q => (q.1.cells.toList, q.2)) = some ((rowC Z81 0).toList ++ (rowC Z81 0).toList ++ (rowC Z81 0).toList, [(0, 82), (82, 82), (164, 82)]) := by kernel_rfl
theorem Tryz.partsPrime : (structParts Tryz.prog 102).map (fun q => (q.1.cells.toList, q.2)) = some ((rowC Z81 0).toList, [(0, 82)]) := by kernel_rfl
theorem z82 : (rowC Z81 0).size = 82 := rowC_size82 Z81_len
theorem built_prime {r : Rw} {x : Nat} (h : r.Ok x) : Tryz.prog.built 102 [(0, .agg r.C)] = some r.C := by
 cases hq : structParts Tryz.prog 102 with
 | none => have e := Tryz.partsPrime; rw [hq] at e; cases e
 | some q =>
  obtain ⟨z, pl⟩ := q
  have e := Tryz.partsPrime
  rw [hq] at e
  simp only [Option.map_some, Option.some.injEq, Prod.mk.injEq] at e
  obtain ⟨e1, rfl⟩ := e
  rw [built_parts hq]
  have ez : z.cells = #[] ++ rowC Z81 0 ++ #[] := Array.ext' (by rw [e1]; simp)
  rw [ez, fill_step (R := r.C) (off := 0) (n := 82) rfl rfl h.size rfl z82]
  simp [Instr.fill]
theorem built_tri {n : Nat} {x : Pn} {p a b : Rw} (h : Tri n x p a b) : Tryz.prog.built 104 [(0, .agg p.C), (1, .agg a.C), (2, .agg b.C)] = some (triC p a b) := by
 cases hq : structParts Tryz.prog 104 with
 | none => have e := Tryz.partsTri; rw [hq] at e; cases e
 | some q =>
  obtain ⟨z, pl⟩ := q
  have e := Tryz.partsTri
  rw [hq] at e
  simp only [Option.map_some, Option.some.injEq, Prod.mk.injEq] at e
  obtain ⟨e1, rfl⟩ := e
  rw [built_parts hq]
  have ez : z.cells = #[] ++ rowC Z81 0 ++ (rowC Z81 0 ++ rowC Z81 0) := Array.ext' (by rw [e1]; simp [Array.toList_append])
  rw [ez, fill_step (R := p.C) (off := 0) (n := 82) rfl rfl h.hp.size rfl z82]
  have e2 : #[] ++ p.C ++ (rowC Z81 0 ++ rowC Z81 0) = p.C ++ rowC Z81 0 ++ rowC Z81 0 := by simp [Array.append_assoc]
  rw [e2, fill_step (R := a.C) (off := 82) (n := 82) rfl rfl h.ha.size h.hp.size z82]
  have e3 : p.C ++ a.C ++ rowC Z81 0 = (p.C ++ a.C) ++ rowC Z81 0 ++ #[] := by simp
  rw [e3, fill_step (R := b.C) (off := 164) (n := 82) rfl rfl h.hb.size (by rw [Array.size_append, h.hp.size, h.ha.size]) z82]
  simp [Instr.fill, triC]
section
variable {P : Program} {ops : Array Oper} {Q : Exit → Act → World → Prop} {S : World → Prop} {K : Act → World → Prop} {i : Nat} {r : List (Bool × Nat)} {a : Act} {w : World}
theorem sq_alloc (d : Option Tmp) (t : TypeId) (Z : Array Value) (hd : (oAt ops i).dst = d) (hi : Nat.blt i ops.size = true) (hw : Region.wanted (oAt ops i) (yielded ops a.tmps) = true) (ho : (oAt ops i).op = .alloc t) (hz : (zeroValue t).run P w = .ok (.agg Z) w) (hS : S (w.alloc (.cells Z t)))
  (k : seqH P ops Q S K r (a.put d (.pointer (some ⟨w.heap.size, 0, none⟩))) (w.alloc (.cells Z t))) : seqH P ops Q S K ((false, i) :: r) a w := by
 refine sq_op hi hw ?_
 have e : (execOp a.eval (oAt ops i)).run P w = .ok (.value (.pointer (some ⟨w.heap.size, 0, none⟩))) (w.alloc (.cells Z t)) := by
  unfold execOp
  rw [ho]
  simp only
  unfold Instr.alloc
  simp [hz, newVar, newRow, Value.cells]
 unfold Oper.wp
 rw [e, Oper.upon_value, hd]
 exact ⟨hS, k⟩
end
theorem Held.setRow {w : World} {L : List (Nat × Array Value × TypeId)} {o : Nat} {C : Array Value} (h : Held w L) (ne : ∀ q ∈ L, q.1 ≠ o) : Held (w.setRow o C) L := fun q hq => (setRow_other _ _ _ _ (ne q hq)).trans (h q hq)
theorem stays {w w' : World} {g : Nat} {o : Obj} (b : Below w.heap.size w w') (h : w.heap[g]? = some o) : w'.heap[g]? = some o := (b.block _ (Array.getElem?_eq_some_iff.1 h).1).trans h
theorem Held.drew {w : World} {L : List (Nat × Array Value × TypeId)} (h : Held w L) : Held w.drew L := h
structure Begun (w w' : World) (L : List (Nat × Array Value × TypeId)) (o : Nat) (Z : Array Value) (t : TypeId) : Prop where
 h : Held w' L
 out : w'.heap[o]? = some (.cells Z t (0, 0))
 ne : ∀ q ∈ L, q.1 ≠ o
 b : Below w.heap.size w w'
theorem Begun.drew {w w' : World} {L : List (Nat × Array Value × TypeId)} {o : Nat} {Z : Array Value} {t : TypeId} (h : Begun w w' L o Z t) : Begun w w'.drew L o Z t := ⟨h.h, h.out, h.ne, ⟨h.b.os, h.b.tape, h.b.output, h.b.size, h.b.block⟩⟩
theorem begun1 {w : World} {L : List (Nat × Array Value × TypeId)} (h : Held w L) (Z : Array Value) (t : TypeId) : Begun w (w.alloc (.cells Z t)) L w.heap.size Z t :=
 ⟨h.on ((Below.refl _ _).alloc (Nat.le_refl _) _), heap_alloc_new w _, h.apart, (Below.refl _ _).alloc (Nat.le_refl _) _⟩
theorem begun2 {w : World} {L : List (Nat × Array Value × TypeId)} (h : Held w L) (A Z : Array Value) (tA t : TypeId) : Begun w ((w.alloc (.cells A tA)).alloc (.cells Z t)) ((w.heap.size, A, tA) :: L) (w.heap.size + 1) Z t := by
 have h1 := (h.on ((Below.refl w.heap.size w).alloc (Nat.le_refl _) (.cells A tA))).cons (heap_alloc_new w (.cells A tA))
 have h2 := begun1 h1 Z t
 have e : (w.alloc (.cells A tA)).heap.size = w.heap.size + 1 := by simp
 rw [e] at h2
 exact ⟨h2.h, h2.out, h2.ne, ((Below.refl _ _).alloc (Nat.le_refl _) _).alloc (by simp) _⟩
theorem begun3 {w : World} {L : List (Nat × Array Value × TypeId)} (h : Held w L) (A B Z : Array Value) (tA tB t : TypeId) : Begun w (((w.alloc (.cells A tA)).alloc (.cells B tB)).alloc (.cells Z t)) ((w.heap.size + 1, B, tB) :: (w.heap.size, A, tA) :: L) (w.heap.size + 1 + 1) Z t := by
 have h1 := (h.on ((Below.refl w.heap.size w).alloc (Nat.le_refl _) (.cells A tA))).cons (heap_alloc_new w (.cells A tA))
 have h2 := begun2 h1 B Z tB t
 have e : (w.alloc (.cells A tA)).heap.size = w.heap.size + 1 := by simp
 rw [e] at h2
 exact ⟨h2.h, h2.out, h2.ne, (((Below.refl _ _).alloc (Nat.le_refl _) _).alloc (by simp) _).alloc (by simp; omega) _⟩
theorem Begun.on {w w' w'' : World} {L : List (Nat × Array Value × TypeId)} {o : Nat} {Z : Array Value} {t : TypeId} (h : Begun w w' L o Z t) (b : Below w'.heap.size w' w'') : Begun w w'' L o Z t := ⟨h.h.on b, stays b h.out, h.ne, bt h.b b⟩
theorem Begun.put {w w' : World} {L : List (Nat × Array Value × TypeId)} {o : Nat} {Z : Array Value} {t : TypeId} (h : Begun w w' L o Z t) (ho : w.heap.size ≤ o) (C : Array Value) : Begun w (w'.setRow o C) L o C t := ⟨h.h.setRow h.ne, setRow_heap _ _ _ _ _ _ h.out, h.ne, below_setRow2 h.b ho _⟩
theorem sumR_any {a b p : Rw} {x y n : Nat} (ha : a.Ok x) (hb : b.Ok y) (hp : p.Ok n) (hx : x < n) (hy : y < n) (hG : n < GB) (w : World) : Calls Tryz.prog 151 #[.agg a.C, .agg b.C, .agg p.C] w (RwPost ((x + y) % n) w) :=
 (sumOfRests_any a.l b.l p.l a.c b.c p.c w ha.len hb.len hp.len ha.v hb.v hp.v (by rw [ha.e, hp.e]; exact hx) (by rw [hb.e, hp.e]; exact hy) (by rw [hp.e]; exact hG)).mono fun _ _ h => rw_post h fun l c e => by rw [e, ha.e, hb.e, hp.e]
theorem differenceR_any {a b p : Rw} {x y n : Nat} (ha : a.Ok x) (hb : b.Ok y) (hp : p.Ok n) (hx : x < n) (hy : y < n) (hG : n < GB) (w : World) : Calls Tryz.prog 149 #[.agg a.C, .agg b.C, .agg p.C] w (RwPost ((x + n - y) % n) w) :=
 (differenceOfRests_any a.l b.l p.l a.c b.c p.c w ha.len hb.len hp.len ha.v hb.v hp.v (by rw [ha.e, hp.e]; exact hx) (by rw [hb.e, hp.e]; exact hy) (by rw [hp.e]; exact hG)).mono fun _ _ h => rw_post h fun l c e => by rw [e, ha.e, hb.e, hp.e]
theorem productR_any {a b p : Rw} {x y n : Nat} (ha : a.Ok x) (hb : b.Ok y) (hp : p.Ok n) (hx : x < n) (hy : y < n) (hG : n < GB) (w : World) : Calls Tryz.prog 150 #[.agg a.C, .agg b.C, .agg p.C] w (RwPost (x * y % n) w) :=
 (productOfRests_any a.l b.l p.l a.c b.c p.c w ha.len hb.len hp.len ha.v hb.v hp.v (by rw [ha.e]; omega) (by rw [hb.e]; omega) (by rw [hp.e]; omega) (by rw [hp.e]; exact hG)).mono fun _ _ h => rw_post h fun l c e => by rw [e, ha.e, hb.e, hp.e]
theorem zero_limb : ∃ Z : Array Value, Z.size = 82 ∧ ∀ w, (zeroValue 100).run Tryz.prog w = .ok (.agg Z) w := ⟨_, z82, zero_row.1⟩
theorem Tryz.zeroTri : (Tryz.prog.info? 104).map (fun i => i.zero.map fun v => v.cells.toList) = some (some ((rowC Z81 0).toList ++ (rowC Z81 0).toList ++ (rowC Z81 0).toList)) := by kernel_rfl
theorem Tryz.zeroTriAgg : (Tryz.prog.info? 104).map (fun i => i.zero.map fun v => match v with | .agg _ => true | _ => false) = some (some true) := by kernel_rfl
theorem zero_tri : ∃ Z : Array Value, Z.size = 246 ∧ ∀ w, (zeroValue 104).run Tryz.prog w = .ok (.agg Z) w := by
 have h := Tryz.zeroTri
 have h2 := Tryz.zeroTriAgg
 cases hq : Tryz.prog.info? 104 with
 | none => rw [hq] at h; cases h
 | some i =>
  rw [hq] at h h2
  simp only [Option.map_some, Option.some.injEq] at h h2
  cases hz : i.zero with
  | none => rw [hz] at h; cases h
  | some v =>
   rw [hz] at h h2
   simp only [Option.map_some, Option.some.injEq] at h h2
   cases v with
   | agg cs =>
    refine ⟨cs, ?_, fun w => by simp [zeroValue, typeInfo, hq, hz]⟩
    have e : cs.toList = (rowC Z81 0).toList ++ (rowC Z81 0).toList ++ (rowC Z81 0).toList := h
    have := congrArg List.length e
    simp only [List.length_append, Array.length_toList, z82] at this
    exact this
   | _ => cases h2
theorem Tryz.partsPair : (structParts Tryz.prog 25).map (fun q => (q.1.cells.toList, q.2)) = some ([.string ⟨#[]⟩, .string ⟨#[]⟩], [(0, 1), (1, 1)]) := by kernel_rfl
theorem built_pair (a b : ByteArray) : Tryz.prog.built 25 [(0, .string a), (1, .string b)] = some (aggT (a, b)) := by
 cases hq : structParts Tryz.prog 25 with
 | none => have e := Tryz.partsPair; rw [hq] at e; cases e
 | some q =>
  obtain ⟨z, pl⟩ := q
  have e := Tryz.partsPair
  rw [hq] at e
  simp only [Option.map_some, Option.some.injEq, Prod.mk.injEq] at e
  obtain ⟨e1, rfl⟩ := e
  rw [built_parts hq]
  have ez : z.cells = #[] ++ #[.string ⟨#[]⟩] ++ #[.string ⟨#[]⟩] := Array.ext' (by rw [e1]; rfl)
  rw [ez, fill_step (R := #[.string a]) (off := 0) (n := 1) rfl rfl rfl rfl rfl]
  have e2 : (#[] ++ #[.string a] ++ #[.string ⟨#[]⟩] : Array Value) = #[.string a] ++ #[.string ⟨#[]⟩] ++ #[] := by simp
  rw [e2, fill_step (R := #[.string b]) (off := 1) (n := 1) rfl rfl rfl rfl rfl]
  simp [Instr.fill, aggT]
theorem str_load {w : World} {g k : Nat} {s : ByteArray} (h : w.cell? ⟨g, k, none⟩ = some (.string s)) : (Instr.loadAt 9 (.pointer (some ⟨g, k, none⟩))).run Tryz.prog w = .ok (.string s) w := by
 go_simp
theorem rowR_any (s : ByteArray) (hs : s.size ≤ 160) (w : World) : Calls Tryz.prog 105 #[.string s] w (RwPost (gV s) w) := (rowOf_any s w hs).mono fun _ _ h => rw_post h fun _ _ e => e
theorem greatR_any {w : World} {g o : Nat} {r : Rw} {x : Nat} (h : RowP w g o r.l r.c) (hr : r.Ok x) (hx : x < GB) : Calls Tryz.prog 110 #[.pointer (some ⟨g, o, none⟩)] w fun e w' => e = .returned (.string (gS x)) ∧ Below w.heap.size w w' := by
 have hc := cnt_40 hr.v (by rw [hr.e]; exact hx)
 have e := greatP_any g o r.c r.l w h hr.v (by omega)
 rw [hr.e, great_gS hx] at e
 exact e
theorem Begun.new {w w' : World} {L : List (Nat × Array Value × TypeId)} {o : Nat} {Z : Array Value} {t : TypeId} (h : Begun w w' L o Z t) (C : Array Value) (tC : TypeId) : Begun w (w'.alloc (.cells C tC)) ((w'.heap.size, C, tC) :: L) o Z t := by
 have b : Below w'.heap.size w' (w'.alloc (.cells C tC)) := (Below.refl _ _).alloc (Nat.le_refl _) _
 refine ⟨(h.h.on b).cons (heap_alloc_new w' _), stays b h.out, fun q hq => ?_, bt h.b b⟩
 rcases List.mem_cons.1 hq with rfl | hq
 ·have := (Array.getElem?_eq_some_iff.1 h.out).1
  show w'.heap.size ≠ o
  omega
 ·exact h.ne q hq
theorem Begun.putAt {w w' : World} {L : List (Nat × Array Value × TypeId)} {o g : Nat} {Z C : Array Value} {t tC : TypeId} (h : Begun w w' ((g, C, tC) :: L) o Z t) (hg : w.heap.size ≤ g) (ap : ∀ q ∈ L, q.1 ≠ g) (C' : Array Value) : Begun w (w'.setRow g C') ((g, C', tC) :: L) o Z t := by
 have hgo : g ≠ o := h.ne _ (List.mem_cons_self)
 refine ⟨(h.h.tail.setRow ap).cons (setRow_heap _ _ _ _ _ _ (h.h _ List.mem_cons_self)), (setRow_other _ _ _ _ (Ne.symm hgo)).trans h.out, fun q hq => ?_, below_setRow2 h.b hg _⟩
 rcases List.mem_cons.1 hq with rfl | hq
 ·exact hgo
 ·exact h.ne q (List.mem_cons_of_mem _ hq)
theorem store_v {ops : Array Oper} {rest : List Oper} {o : Oper} {a : Act} {w : World} {Q : Exit → Act → World → Prop} (hgd : o.guard = none) (t : TypeId) (x y : Operand) (ho : o.op = .store t x y) (g : Nat) (C C' : Array Value)
  (hx : a.eval x = .pointer (some ⟨g, 0, none⟩)) (hy : a.eval y = .agg C') {t0 : TypeId} (h : w.heap[g]? = some (.cells C t0 (0, 0))) (hs : (Tryz.prog.info? t).map (·.size) = some C'.size) (hc : C.size = C'.size) (h1 : C'.all (·.oneCell') = true) (k : wpList Tryz.prog ops Q rest (a.put o.dst undef) (w.setRow g C')) : wpList Tryz.prog ops Q (o :: rest) a w :=
 wpList_plain hgd fun _ hK => wp_store_row _ x y ho g _ hx hy _ _ h hs hc h1 (hK _ _ k)
theorem load_v {ops : Array Oper} {rest : List Oper} {o : Oper} {a : Act} {w : World} {Q : Exit → Act → World → Prop} (hgd : o.guard = none) (t : TypeId) (x : Operand) (ho : o.op = .load t x) (g : Nat) (C : Array Value)
  (hx : a.eval x = .pointer (some ⟨g, 0, none⟩)) {t0 : TypeId} (h : w.heap[g]? = some (.cells C t0 (0, 0))) {d : TypeDesc} (hu : Tryz.prog.underlying t = some d) (hd : d.isRow = true) (hs : (Tryz.prog.info? t).map (·.size) = some C.size) (k : wpList Tryz.prog ops Q rest (a.put o.dst (.agg C)) w) : wpList Tryz.prog ops Q (o :: rest) a w := by
 refine wpList_plain hgd fun K hK => ?_
 unfold Oper.wp execOp
 simp only [ho, hx]
 have e := cells_load h hu hd hs
 simp [e]
 exact hK _ _ k
section
variable {P : Program} {ops : Array Oper} {Q : Exit → Act → World → Prop} {S : World → Prop} {K : Act → World → Prop} {i : Nat} {r : List (Bool × Nat)} {a : Act} {w : World}
theorem sq_allock (d : Option Tmp) (t : TypeId) (Z : Array Value) (hz : (zeroValue t).run P w = .ok (.agg Z) w) (hS : S (w.alloc (.cells Z t))) (k : seqH P ops Q S K r (a.put d (.pointer (some ⟨w.heap.size, 0, none⟩))) (w.alloc (.cells Z t))) (hd : (oAt ops i).dst = d := by kernel_rfl) (hi : Nat.blt i ops.size = true := by kernel_rfl) (hw : Region.wanted (oAt ops i) (yielded ops a.tmps) = true := by kernel_rfl) (ho : (oAt ops i).op = .alloc t := by kernel_rfl) : seqH P ops Q S K ((false, i) :: r) a w := sq_alloc d t Z hd hi hw ho hz hS k
end
end Go.Proofs.YtdajgcgliidjbaaGreat

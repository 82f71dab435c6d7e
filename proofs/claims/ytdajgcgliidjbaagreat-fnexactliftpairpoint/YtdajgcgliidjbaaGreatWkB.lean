import Derived.Test.YtdajgcgliidjbaaGreatSeqP
import Derived.Test.YtdajgcgliidjbaaGreatJTri
import Derived.Deep.MidRow
namespace Go.Proofs.YtdajgcgliidjbaaGreat
open Go.RowKit
structure Blks (w w' : World) (L : List (Nat × Array Value × TypeId)) : Prop where
 h : Held w' L
 b : Below w.heap.size w w'
 nd : (L.map (·.1)).Nodup
 ge : ∀ q ∈ L, w.heap.size ≤ q.1
theorem Held.pick {w : World} {L : List (Nat × Array Value × TypeId)} (h : Held w L) (is : List Nat) (L' : List (Nat × Array Value × TypeId)) (hl : is.map (fun i => L[i]?) = L'.map some) : Held w L' := fun q hq => by
 have h1 : some q ∈ L'.map some := List.mem_map.2 ⟨q, hq, rfl⟩
 rw [← hl] at h1
 obtain ⟨i, _, hi⟩ := List.mem_map.1 h1
 exact h q (List.mem_of_getElem? hi)
theorem Blks.on {w w' w'' : World} {L : List (Nat × Array Value × TypeId)} (h : Blks w w' L) (b : Below w'.heap.size w' w'') : Blks w w'' L := ⟨h.h.on b, bt h.b b, h.nd, h.ge⟩
theorem belowD (w : World) : Below w.heap.size w w.drew := ⟨rfl, rfl, rfl, Nat.le_refl _, fun _ _ => rfl⟩
theorem Blks.drew {w w' : World} {L : List (Nat × Array Value × TypeId)} (h : Blks w w' L) : Blks w w'.drew L := h.on (belowD w')
theorem belowN (w : World) (C : Array Value) (t : TypeId) : Below w.heap.size w (w.alloc (.cells C t)) := (Below.refl _ _).alloc (Nat.le_refl _) _
theorem Blks.new {w w' : World} {L : List (Nat × Array Value × TypeId)} (h : Blks w w' L) (C : Array Value) (t : TypeId) : Blks w (w'.alloc (.cells C t)) ((w'.heap.size, C, t) :: L) := by
 have b := belowN w' C t
 refine ⟨(h.h.on b).cons (heap_alloc_new w' _), bt h.b b, ?_, ?_⟩
 ·simp only [List.map_cons, List.nodup_cons]
  refine ⟨fun hm => ?_, h.nd⟩
  obtain ⟨q, hq, e⟩ := List.mem_map.1 hm
  exact h.h.apart q hq e
 ·intro q hq
  rcases List.mem_cons.1 hq with rfl | hq
  ·exact h.b.size
  ·exact h.ge q hq
theorem Blks.at {w w' : World} {L : List (Nat × Array Value × TypeId)} (h : Blks w w' L) (i : Nat) {g : Nat} {C : Array Value} {t : TypeId} (hi : L[i]? = some (g, C, t)) : w'.heap[g]? = some (.cells C t (0, 0)) := h.h (g, C, t) (List.mem_of_getElem? hi)
theorem nodup_get {l : List Nat} (h : l.Nodup) {i j x : Nat} (hi : l[i]? = some x) (hj : l[j]? = some x) : i = j := by
 obtain ⟨h1, e1⟩ := List.getElem?_eq_some_iff.1 hi
 obtain ⟨h2, e2⟩ := List.getElem?_eq_some_iff.1 hj
 exact (List.getElem_inj h).1 (e1.trans e2.symm)
theorem Blks.put {w w' : World} {L : List (Nat × Array Value × TypeId)} (h : Blks w w' L) (i : Nat) {g : Nat} {C : Array Value} {t : TypeId} (hi : L[i]? = some (g, C, t)) (C' : Array Value) : Blks w (w'.setRow g C') (L.set i (g, C', t)) := by
 have hg := h.at i hi
 have hm : (L.map (·.1))[i]? = some g := by rw [List.getElem?_map, hi]; rfl
 obtain ⟨hl, _⟩ := List.getElem?_eq_some_iff.1 hi
 have hmap : (L.set i (g, C', t)).map (·.1) = L.map (·.1) := by
  rw [List.map_set]
  refine List.ext_getElem? fun j => ?_
  rw [List.getElem?_set]
  split
  ·rename_i e; subst e
   rw [hm]
   simp [hl]
  ·rfl
 refine ⟨fun q hq => ?_, below_setRow2 h.b (h.ge _ (List.mem_of_getElem? hi)) _, by rw [hmap]; exact h.nd, fun q hq => ?_⟩
 ·obtain ⟨j, hj⟩ := List.getElem?_of_mem hq
  rw [List.getElem?_set] at hj
  split at hj
  ·try rw [if_pos hl] at hj
   injection hj with hj
   rw [← hj]
   exact setRow_heap _ _ _ _ _ _ hg
  ·rename_i hne
   have hqm := List.mem_of_getElem? hj
   have hk : q.1 ≠ g := fun e => by
    apply hne
    refine nodup_get h.nd hm ?_
    rw [List.getElem?_map, hj, ← e]
    rfl
   exact (setRow_other _ _ _ _ hk).trans (h.h q hqm)
 ·rcases List.mem_or_eq_of_mem_set hq with hq | rfl
  ·exact h.ge q hq
  ·exact h.ge (g, C, t) (List.mem_of_getElem? hi)
theorem Blks.sub {w w' : World} {L : List (Nat × Array Value × TypeId)} (h : Blks w w' L) (is : List Nat) (L' : List (Nat × Array Value × TypeId)) (hl : is.map (fun i => L[i]?) = L'.map some) (hn : is.Nodup) : Blks w w' L' := by
 have hmem : ∀ q ∈ L', q ∈ L := fun q hq => by
  have h1 : some q ∈ L'.map some := List.mem_map.2 ⟨q, hq, rfl⟩
  rw [← hl] at h1
  obtain ⟨i, _, hi⟩ := List.mem_map.1 h1
  exact List.mem_of_getElem? hi
 refine ⟨fun q hq => h.h q (hmem q hq), h.b, ?_, fun q hq => h.ge q (hmem q hq)⟩
 have hnd := h.nd
 clear hmem h
 induction is generalizing L' with
 | nil =>
  cases L' with
  | nil => exact .nil
  | cons => cases hl
 | cons i is ih =>
  cases L' with
  | nil => cases hl
  | cons q L' =>
   simp only [List.map_cons, List.cons.injEq] at hl
   obtain ⟨hq, hl⟩ := hl
   obtain ⟨n1, n2⟩ := List.nodup_cons.1 hn
   simp only [List.map_cons, List.nodup_cons]
   refine ⟨fun hm => ?_, ih L' hl n2⟩
   obtain ⟨r, hr, e⟩ := List.mem_map.1 hm
   have h1 : some r ∈ L'.map some := List.mem_map.2 ⟨r, hr, rfl⟩
   rw [← hl] at h1
   obtain ⟨j, hj, hrj⟩ := List.mem_map.1 h1
   have : i = j := nodup_get hnd (x := q.1) (by rw [List.getElem?_map, hq]; rfl) (by rw [List.getElem?_map, hrj, ← e]; rfl)
   exact n1 (this ▸ hj)
theorem blks0 (w : World) : Blks w w [] := ⟨Held.none w, Below.refl _ _, .nil, fun q hq => by cases hq⟩
theorem blks1 (w : World) (A : Array Value) (tA : TypeId) : Blks w (w.alloc (.cells A tA)) [(w.heap.size, A, tA)] := (blks0 w).new A tA
theorem size_new (w : World) (C : Array Value) (t : TypeId) : (w.alloc (.cells C t)).heap.size = w.heap.size + 1 := by simp
theorem blks2 (w : World) (A B : Array Value) (tA tB : TypeId) : Blks w ((w.alloc (.cells A tA)).alloc (.cells B tB)) [(w.heap.size + 1, B, tB), (w.heap.size, A, tA)] := by
 have h := (blks1 w A tA).new B tB
 rwa [size_new] at h
section
variable {P : Program} {ops : Array Oper} {Q : Exit → Act → World → Prop} {S : World → Prop} {K : Act → World → Prop} {i : Nat} {r : List (Bool × Nat)} {a : Act} {w : World}
theorem sq_v (d : Option Tmp) (u v : Value) (e : u = v) (hd : (oAt ops i).dst = d) (hw : Region.wanted (oAt ops i) (yielded ops a.tmps) = true) (hv : ∀ w', (execOp a.eval (oAt ops i)).run P w' = .ok (.value u) w') (k : seqH P ops Q S K r (a.put d v) w) : seqH P ops Q S K ((true, i) :: r) a w :=
 sq_pure d v hd hw (by subst e; exact hv) k
theorem g_v (d : Option Tmp) (u v : Value) (e : u = v) (hd : (oAt ops i).dst = d) (hw : Region.wanted (oAt ops i) (yielded ops a.tmps) = true) (hv : ∀ w', (execOp a.eval (oAt ops i)).run P w' = .ok (.value u) w') (k : SQ P ops Q S K r (a.put d v) w) : SQ P ops Q S K ((true, i) :: r) a w :=
 ⟨sq_v d u v e hd hw hv k.out⟩
theorem wk_now (d : Option Tmp) {t : TypeId} {p v : Value} (F : (Instr.loadAt t p).run P w = .ok v w) (hS : S w) (h : ((oAt ops i).dst, Nat.blt i ops.size, Region.wanted (oAt ops i) (yielded ops a.tmps), (loadOf (oAt ops i).op).map (fun q => (q.1, a.eval q.2))) = (d, true, true, some (t, p))) (k : seqH P ops Q S K r (a.put d v) w) : seqH P ops Q S K ((false, i) :: r) a w := by
 simp only [Prod.mk.injEq] at h
 obtain ⟨hd, hi, hw, hl⟩ := h
 cases hq : loadOf (oAt ops i).op with
 | none => rw [hq] at hl; cases hl
 | some q =>
  obtain ⟨t', x⟩ := q
  rw [hq] at hl
  simp only [Option.map_some, Option.some.injEq, Prod.mk.injEq] at hl
  obtain ⟨rfl, hx⟩ := hl
  have ho := loadOf_spec hq
  refine sq_op hi hw ?_
  have e : (execOp a.eval (oAt ops i)).run P w = .ok (.value v) w := by
   unfold execOp
   simp only [ho, hx, Sem.run_bind, F, Result.andThen_ok, Sem.run_pure]
  unfold Oper.wp
  rw [e, Oper.upon_value, hd]
  exact ⟨hS, k⟩
end
theorem ld_mid' {P : Program} {L : List (Nat × Array Value × TypeId)} {g k : Nat} {C D : Array Value} {t T : TypeId} {d : TypeDesc} (hu : P.underlying T = some d) (hd : d.isRow = true) (hs : (P.info? T).map (·.size) = some D.size) (hm : (g, C, t) ∈ L) (h : (C.toList.drop k).take D.size = D.toList) : ∀ w', Held w' L → (Instr.loadAt T (.pointer (some ⟨g, k, none⟩))).run P w' = .ok (.agg D) w' := by
 intro w' hw
 have hg := hw _ hm
 have e := run_loadAt_mid (P := P) w' g k T D.toList _ (fun j v hv => by
  rw [cell_of_row w' g (k + j) _ _ _ hg]
  rw [← h] at hv
  rw [List.getElem?_take] at hv
  split at hv
  ·rw [List.getElem?_drop] at hv
   rw [← Array.getElem?_toList]
   exact hv
  ·cases hv) hu hd (by simpa using hs)
 simpa using e
def putC : Array Value → Nat → List Value → Array Value
 | C, _, [] => C
 | C, k, v :: vs => putC (C.setIfInBounds k v) (k + 1) vs
theorem setRow_twice (w : World) (g : Nat) (A B : Array Value) : (w.setRow g A).setRow g B = w.setRow g B := by
 unfold World.setRow
 congr 1
 apply Array.ext
 ·simp
 ·intro k h1 h2
  simp only [Array.getElem_modify]
  have hk : k < w.heap.size := by simpa using h1
  generalize w.heap[k]'hk = o
  by_cases e : g = k
  ·rw [if_pos e, if_pos e, if_pos e]
   cases o <;> rfl
  ·rw [if_neg e, if_neg e, if_neg e]
theorem setCells_row {g : Nat} {t : TypeId} {fr : Nat × Nat} : ∀ (vs : List Value) (w : World) (k : Nat) (C : Array Value), w.heap[g]? = some (.cells C t fr) → vs ≠ [] → w.setCells g k vs = w.setRow g (putC C k vs)
 | [], _, _, _, _, hn => absurd rfl hn
 | [v], w, k, C, hg, _ => setCell_eq_setRow w g k C t fr v hg
 | v :: v2 :: vs, w, k, C, hg, _ => by
  have e1 := setCell_eq_setRow w g k C t fr v hg
  show (w.setCell ⟨g, k, none⟩ v).setCells g (k + 1) (v2 :: vs) = _
  rw [e1, setCells_row (v2 :: vs) _ (k + 1) _ (setRow_heap _ _ _ _ _ _ hg) (by simp), setRow_twice]
  rfl
theorem storeAt_cells (ty : TypeId) (p v : Value) : Instr.storeAt ty p v = Instr.storeAt ty p (.agg v.cells) := rfl
section
variable {P : Program} {ops : Array Oper} {Q : Exit → Act → World → Prop} {S : World → Prop} {K : Act → World → Prop} {i : Nat} {r : List (Bool × Nat)} {a : Act} {w : World}
theorem sq_stm (t : TypeId) (g k : Nat) (v : Value) (C' : Array Value) {C : Array Value} {t0 : TypeId} (H : w.heap[g]? = some (.cells C t0 (0, 0))) (hs : (P.info? t).map (·.size) = some v.cells.size) (h1 : v.cells.all (·.oneCell') = true) (hk : (Nat.ble (k + v.cells.size) C.size, v.cells.toList.isEmpty) = (true, false)) (hC : putC C k v.cells.toList = C') (hS : S (w.setRow g C'))
  (h : ((oAt ops i).dst, Nat.blt i ops.size, Region.wanted (oAt ops i) (yielded ops a.tmps), (storeOf (oAt ops i).op).map (fun q => (q.1, a.eval q.2.1, a.eval q.2.2))) = (none, true, true, some (t, .pointer (some ⟨g, k, none⟩), v)))
  (hn : seqH P ops Q S K r a (w.setRow g C')) : seqH P ops Q S K ((false, i) :: r) a w := by
 simp only [Prod.mk.injEq] at h hk
 obtain ⟨hd, hi, hw, hl⟩ := h
 obtain ⟨hk, he⟩ := hk
 cases hq : storeOf (oAt ops i).op with
 | none => rw [hq] at hl; cases hl
 | some q =>
  obtain ⟨t', x, y⟩ := q
  rw [hq] at hl
  simp only [Option.map_some, Option.some.injEq, Prod.mk.injEq] at hl
  obtain ⟨rfl, hx, hy⟩ := hl
  have ho := storeOf_spec hq
  refine sq_op hi hw ?_
  have hk := Nat.ble_eq.mp hk
  have ht : w.there g k v.cells.size := fun j hj => by
   refine ⟨?_, by simp [World.frozen?, H]⟩
   rw [cell_of_row w g (k + j) _ _ _ H, Array.getElem?_eq_getElem (by omega)]
   rfl
  have hne : v.cells.toList ≠ [] := fun e => by rw [e] at he; cases he
  have e := run_storeAt_mid (P := P) w g k t' v.cells ht hs h1
  rw [← storeAt_cells, setCells_row _ w k C H hne, hC] at e
  unfold Oper.wp execOp
  simp only [ho, hx, hy, Sem.run_bind, Sem.run_pure, e, Result.andThen_ok]
  exact ⟨hS, by rw [hd]; exact hn⟩
end
theorem Tryz.wkS : (Tryz.prog.info? 9).map (·.size) = some 1 := by kernel_rfl
theorem wk_s {L : List (Nat × Array Value × TypeId)} {g k : Nat} {C : Array Value} {t : TypeId} {s : ByteArray} (hm : (g, C, t) ∈ L) (h : C[k]? = some (.string s)) : ∀ w', Held w' L → (Instr.loadAt 9 (.pointer (some ⟨g, k, none⟩))).run Tryz.prog w' = .ok (.string s) w' := fun w' hw => by
 have e := (cell_of_row w' g k _ _ _ (hw _ hm)).trans h
 go_simp
theorem wk_b {L : List (Nat × Array Value × TypeId)} {g k : Nat} {C : Array Value} {t : TypeId} {s : Bool} (hm : (g, C, t) ∈ L) (h : C[k]? = some (.bool s)) : ∀ w', Held w' L → (Instr.loadAt 4 (.pointer (some ⟨g, k, none⟩))).run Tryz.prog w' = .ok (.bool s) w' := fun w' hw => by
 have e := (cell_of_row w' g k _ _ _ (hw _ hm)).trans h
 go_simp
theorem wk_bl {s t : ByteArray} : s.toList = t.toList ↔ s = t := by
 refine ⟨fun h => ?_, fun h => by rw [h]⟩
 rw [ByteArray.toList_eq, ByteArray.toList_eq] at h
 exact ByteArray.ext (Array.toList_inj.1 h)
theorem ne_str {ops : Array Oper} {S : World → Prop} {o : Oper} {a : Act} (hw : Region.wanted o (yielded ops a.tmps) = true) (x y : Operand) (ho : o.op = .binOp .neq 9 x y 9) (s t : ByteArray) (b : Bool) (hb : decide (s = t) = b)
  (hx : a.eval x = .string s) (hy : a.eval y = .string t) : YieldsIf Tryz.prog ops S o (.bool (!b)) a := by
 refine .inl ⟨hw, fun w _ => ?_⟩
 unfold execOp
 simp only [ho, hx, hy]
 go_simp
 subst hb
 by_cases h0 : s = t
 ·subst h0
  simp
 ·have k1 : ¬ s.toList = t.toList := fun q => h0 (wk_bl.1 q)
  simp [h0, k1]
theorem res_ct {P : Program} {w : World} {g : Nat} {C : Array Value} {T : TypeId} {d : TypeDesc} (hu : P.underlying T = some d) (hd : (match d with | .struct _ => true | .array _ _ => true | _ => false) = true) (hi : (P.info? T).map (·.size) = some C.size) {t0 : TypeId} (hb : w.heap[g]? = some (.cells C t0 (0, 0))) {fn : Func} {p q : Tmp} (hf : fn.results = #[.cell p T, .tmp q]) (tmps : Array Value) (hp : tmps.getD p undef = .pointer (some ⟨g, 0, none⟩)) {v : Value} (hq : tmps.getD q undef = v) :
  (results fn tmps).run P w = .ok (.tuple #[.agg C, v]) w := by
 have e1 := run_loadVar_row (P := P) w g _ T _ _ _ hb hu hd hi
 have hp' : tmps[p]?.getD undef = .pointer (some ⟨g, 0, none⟩) := by simpa using hp
 have hq' : tmps[q]?.getD undef = v := by simpa using hq
 simp [results, hf, hp', hq', asAddr, e1]
theorem wk_ret {fn : Func} {t : Tmp} {R : Ending → World → Prop} {a : Act} {w : World} {v : Value} (hf : fn.results = #[.tmp t]) (ht : a.tmps.getD t undef = v) (hd : a.defers = []) (hR : R (.returned v) w) : bodyPost Tryz.prog fn R .ret a w :=
 bodyPost_ret (results_tmp hf _ _ _) hd (by rw [ht]; exact hR)
theorem wk_block {l : Nat} {Q : Exit → Act → World → Prop} {a : Act} {w : World} (h : Q .ret a w) : Exit.inBlock l Q .ret a w := h
theorem wk_then {K : Act → World → Prop} {Q : Exit → Act → World → Prop} {a : Act} {w : World} (h : Q .ret a w) : Exit.then K Q .ret a w := h
end Go.Proofs.YtdajgcgliidjbaaGreat

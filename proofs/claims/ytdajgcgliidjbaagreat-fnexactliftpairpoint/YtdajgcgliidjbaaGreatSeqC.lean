import Derived.Test.YtdajgcgliidjbaaGreatSeq
import Derived.Laws.Tables
namespace Go.Proofs.YtdajgcgliidjbaaGreat
section
variable {P : Program} {ops : Array Oper} {Q : Exit → Act → World → Prop} {S : World → Prop} {K : Act → World → Prop} {i : Nat} {r : List (Bool × Nat)} {a : Act} {w : World}
def infoS (ops : Array Oper) : List OpI := ops.toList.map fun o => ⟨depsMask .any o.after.toList, o.dst, o.looksAt ops⟩
theorem tells_infoS (ops : Array Oper) : ∀ l : List Oper, tellsI .any ops l (l.map fun o => ⟨depsMask .any o.after.toList, o.dst, o.looksAt ops⟩) = true
 | [] => rfl
 | o :: l => by
  simp only [List.map_cons, tellsI, tells_infoS ops l, Bool.and_true, beq_self_eq_true, Bool.true_and]
  exact List.all_eq_true.2 fun x hx => by simpa using hx
theorem sq_go {id : Nat} (sched : List (Bool × Nat)) (hm : (P.follows .mixedOrders, Region.noSelect ops, schedI (infoS ops) sched 0, sched.length == ops.size, allAt (fun j _ => (maskAll sched 0).testBit j) 0 (infoS ops)) = (true, true, true, true, true)) (hQ : ∀ d v c a w, Q (.panic c) (Act.put a d v) w → Q (.panic c) a w)
  (hS : S w.drew) (h : seqH P ops Q S (fun a' w' => Q .normal a' w') sched a w.drew) : (Code.region id ops true).wp P Q a w := by
 simp only [Prod.mk.injEq] at hm
 exact wp_region_seq (infoS ops) sched hm.1 (tells_infoS ops _) hm.2.1 hm.2.2.1 hm.2.2.2.1 hm.2.2.2.2 hQ hS h
def preS : List (Nat × Value) → List (Bool × Nat) → List (Bool × Nat)
 | [], r => r
 | (i, _) :: l, r => (true, i) :: preS l r
def putS (ops : Array Oper) : List (Nat × Value) → Act → Act
 | [], a => a
 | (i, v) :: l, a => putS ops l (a.put (oAt ops i).dst v)
def sayS (P : Program) (ops : Array Oper) : List (Nat × Value) → Act → List (Bool × (World → Result Next))
 | [], _ => []
 | (i, v) :: l, a => (Region.wanted (oAt ops i) (yielded ops a.tmps), fun w => (execOp a.eval (oAt ops i)).run P w) :: sayS P ops l (a.put (oAt ops i).dst v)
theorem sq_ps : ∀ (L : List (Nat × Value)) {a : Act}, sayS P ops L a = L.map (fun q => (true, fun w => .ok (.value q.2) w)) → seqH P ops Q S K r (putS ops L a) w → seqH P ops Q S K (preS L r) a w
 | [], _, _, k => k
 | (i, v) :: l, a, h, k => by
  simp only [sayS, List.map_cons, List.cons.injEq, Prod.mk.injEq] at h
  exact ⟨v, .inl ⟨h.1.1, fun w' _ => congrFun h.1.2 w'⟩, sq_ps l h.2 k⟩
def noS (ops : Array Oper) : List Nat → Act → List Bool
 | [], _ => []
 | i :: l, a => Region.wanted (oAt ops i) (yielded ops a.tmps) :: noS ops l (a.put (oAt ops i).dst undef)
theorem sq_no : ∀ (L : List Nat) {a : Act}, noS ops L a = L.map (fun _ => false) → seqH P ops Q S K r (putS ops (L.map (·, undef)) a) w → seqH P ops Q S K (preS (L.map (·, undef)) r) a w
 | [], _, _, k => k
 | i :: l, a, h, k => by
  simp only [noS, List.map_cons, List.cons.injEq] at h
  exact ⟨undef, .inr ⟨h.1, rfl⟩, sq_no l h.2 k⟩
def loadOf : Op → Option (TypeId × Operand)
 | .load t x => some (t, x)
 | _ => none
theorem loadOf_spec {o : Op} {t : TypeId} {x : Operand} (h : loadOf o = some (t, x)) : o = .load t x := by
 cases o <;> simp_all [loadOf]
theorem sq_ld (d : Option Tmp) {t : TypeId} {p v : Value} (F : ∀ w, S w → (Instr.loadAt t p).run P w = .ok v w) (h : ((oAt ops i).dst, Region.wanted (oAt ops i) (yielded ops a.tmps), (loadOf (oAt ops i).op).map (fun q => (q.1, a.eval q.2))) = (d, true, some (t, p))) (k : seqH P ops Q S K r (a.put d v) w) : seqH P ops Q S K ((true, i) :: r) a w := by
 simp only [Prod.mk.injEq] at h
 obtain ⟨hd, hw, hl⟩ := h
 cases hq : loadOf (oAt ops i).op with
 | none => rw [hq] at hl; cases hl
 | some q =>
  obtain ⟨t', x⟩ := q
  rw [hq] at hl
  simp only [Option.map_some, Option.some.injEq, Prod.mk.injEq] at hl
  obtain ⟨rfl, rfl⟩ := hl
  refine sq_held d v hd hw (fun w' hS => ?_) k
  unfold execOp
  rw [loadOf_spec hq]
  simp only
  have e := F w' hS
  simp [e]
theorem sq_c (d : Option Tmp) {f : FuncId} {fn : Func} {vs : List Value} {R : Ending → World → Prop} (hf : P.funcs[f]? = some fn) (C : Calls P f vs.toArray w R)
  (h : (fn.name == "runtime.NumGoroutine", fn.body.isSome, (oAt ops i).dst, Nat.blt i ops.size, Region.wanted (oAt ops i) (yielded ops a.tmps), (callOf (oAt ops i).op).map (fun p => (p.1, p.2.map a.eval))) = (false, true, d, true, true, some (f, vs)))
  (k : ∀ e w', R e w' → ∃ v, e = .returned v ∧ S w' ∧ seqH P ops Q S K r (a.put d v) w') : seqH P ops Q S K ((false, i) :: r) a w := by
 simp only [Prod.mk.injEq] at h
 obtain ⟨h1, h2, h3, h4, h5, h6⟩ := h
 exact sq_fn d vs hf h1 h2 h3 h4 h5 h6 (C.mono k)
def storeOf : Op → Option (TypeId × Operand × Operand)
 | .store t x y => some (t, x, y)
 | _ => none
theorem storeOf_spec {o : Op} {t : TypeId} {x y : Operand} (h : storeOf o = some (t, x, y)) : o = .store t x y := by
 cases o <;> simp_all [storeOf]
theorem sq_st (t : TypeId) (g : Nat) (C' : Array Value) {C : Array Value} {t0 : TypeId} (H : w.heap[g]? = some (.cells C t0 (0, 0))) (hs : (P.info? t).map (·.size) = some C'.size) (hc : C.size = C'.size) (h1 : C'.all (·.oneCell') = true) (hS : S (w.setRow g C'))
  (h : ((oAt ops i).dst, Nat.blt i ops.size, Region.wanted (oAt ops i) (yielded ops a.tmps), (storeOf (oAt ops i).op).map (fun q => (q.1, a.eval q.2.1, a.eval q.2.2))) = (none, true, true, some (t, .pointer (some ⟨g, 0, none⟩), .agg C')))
  (k : seqH P ops Q S K r a (w.setRow g C')) : seqH P ops Q S K ((false, i) :: r) a w := by
 simp only [Prod.mk.injEq] at h
 obtain ⟨hd, hi, hw, hl⟩ := h
 cases hq : storeOf (oAt ops i).op with
 | none => rw [hq] at hl; cases hl
 | some q =>
  obtain ⟨t', x, y⟩ := q
  rw [hq] at hl
  simp only [Option.map_some, Option.some.injEq, Prod.mk.injEq] at hl
  obtain ⟨rfl, hx, hy⟩ := hl
  exact sq_op hi hw (wp_store_row _ x y (storeOf_spec hq) g _ hx hy _ _ H hs hc h1 ⟨hS, by rw [hd]; exact k⟩)
end
section
variable {P : Program} {ops : Array Oper} {Q : Exit → Act → World → Prop} {S : World → Prop}
theorem wpOps_of_seq : ∀ (sched : List (Bool × Nat)) (a : Act) (w : World), (sched.all fun s => Nat.blt s.2 ops.size) = true → S w → seqH P ops Q S (fun a' w' => Q .normal a' w') sched a w → wpOps P ops Q (sched.map (·.2)) a w
 | [], a, w, _, _, h => h
 | (t, i) :: r, a, w, hb, hS, h => by
  simp only [List.all_cons, Bool.and_eq_true] at hb
  have hi : i < ops.size := Nat.blt_eq.mp hb.1
  rw [List.map_cons, wpOps_cons]
  cases t with
  | true =>
   obtain ⟨v, hy, h⟩ := h
   exact hy.wpOp (oAt_some hi) hS (wpOps_of_seq r _ _ hb.2 hS h)
  | false => exact wpOp_mono (fun a' w' h' => wpOps_of_seq r a' w' hb.2 h'.1 h'.2) h
theorem wanted_by {i g : Nat} {b : Bool} {d : Tmp} {a : Act} (hg : (oAt ops i).guard = some (g, b)) (hs : Nat.blt g ops.size = true) (hd : (oAt ops g).dst = some d) (he : a.eval (.tmp d) = .bool b) : Region.wanted (oAt ops i) (yielded ops a.tmps) = true := by
 have ho := oAt_some (Nat.blt_eq.mp hs)
 have e : a.tmps[d]? = some (.bool b) := by
  have he' : a.tmps.getD d undef = .bool b := he
  rw [Array.getD_eq_getD_getElem?] at he'
  cases hq : a.tmps[d]? with
  | none => rw [hq] at he'; cases he'
  | some v => rw [hq] at he'; exact congrArg some he'
 unfold Region.wanted yielded
 rw [hg]
 simp only [ho, Option.bind_some, hd, e]
 simp
theorem wp_region_line {id : Nat} {a : Act} {w : World} (sched : List (Bool × Nat)) (hn : sched.map (·.2) = List.range ops.size) (hb : (sched.all fun s => Nat.blt s.2 ops.size) = true) (hS : S w) (h : seqH P ops Q S (fun a' w' => Q .normal a' w') sched a w) : (Code.region id ops false).wp P Q a w := by
 refine wp_region ?_
 rw [← hn]
 exact wpOps_of_seq sched a w hb hS h
structure SQ (P : Program) (ops : Array Oper) (Q : Exit → Act → World → Prop) (S : World → Prop) (K : Act → World → Prop) (sc : List (Bool × Nat)) (a : Act) (w : World) : Prop where
 out : seqH P ops Q S K sc a w
variable {K : Act → World → Prop} {i : Nat} {r : List (Bool × Nat)} {a : Act} {w : World}
theorem g_take (d : Option Tmp) (v : Value) (hd : (oAt ops i).dst = d) (hy : YieldsIf P ops S (oAt ops i) v a) (k : SQ P ops Q S K r (a.put d v) w) : SQ P ops Q S K ((true, i) :: r) a w := ⟨sq_take d v hd hy k.out⟩
theorem g_pure (d : Option Tmp) (v : Value) (hd : (oAt ops i).dst = d) (hw : Region.wanted (oAt ops i) (yielded ops a.tmps) = true) (hv : ∀ w', (execOp a.eval (oAt ops i)).run P w' = .ok (.value v) w') (k : SQ P ops Q S K r (a.put d v) w) : SQ P ops Q S K ((true, i) :: r) a w := ⟨sq_pure d v hd hw hv k.out⟩
theorem g_done (k : K a w) : SQ P ops Q S K [] a w := ⟨k⟩
theorem g_norm (a' : Act) (h : a = a') (k : SQ P ops Q S K r a' w) : SQ P ops Q S K r a w := by rw [h]; exact k
end
section
variable {P : Program} {ops : Array Oper} {Q : Exit → Act → World → Prop} {S : World → Prop} {K : Act → World → Prop} {i : Nat} {r : List (Bool × Nat)} {a : Act} {w : World}
theorem g_ps (L : List (Nat × Value)) (h : sayS P ops L a = L.map (fun q => (true, fun w => .ok (.value q.2) w))) (k : SQ P ops Q S K r (putS ops L a) w) : SQ P ops Q S K (preS L r) a w := ⟨sq_ps L h k.out⟩
theorem g_no (L : List Nat) (h : noS ops L a = L.map (fun _ => false)) (k : SQ P ops Q S K r (putS ops (L.map (·, undef)) a) w) : SQ P ops Q S K (preS (L.map (·, undef)) r) a w := ⟨sq_no L h k.out⟩
theorem g_ld (d : Option Tmp) {t : TypeId} {p v : Value} (F : ∀ w, S w → (Instr.loadAt t p).run P w = .ok v w) (h : ((oAt ops i).dst, Region.wanted (oAt ops i) (yielded ops a.tmps), (loadOf (oAt ops i).op).map (fun q => (q.1, a.eval q.2))) = (d, true, some (t, p))) (k : SQ P ops Q S K r (a.put d v) w) : SQ P ops Q S K ((true, i) :: r) a w := ⟨sq_ld d F h k.out⟩
theorem g_c (d : Option Tmp) {f : FuncId} {fn : Func} {vs : List Value} {R : Ending → World → Prop} (hf : P.funcs[f]? = some fn) (C : Calls P f vs.toArray w R)
  (h : (fn.name == "runtime.NumGoroutine", fn.body.isSome, (oAt ops i).dst, Nat.blt i ops.size, Region.wanted (oAt ops i) (yielded ops a.tmps), (callOf (oAt ops i).op).map (fun p => (p.1, p.2.map a.eval))) = (false, true, d, true, true, some (f, vs)))
  (k : ∀ e w', R e w' → ∃ v, e = .returned v ∧ S w' ∧ SQ P ops Q S K r (a.put d v) w') : SQ P ops Q S K ((false, i) :: r) a w :=
 ⟨sq_c d hf C h fun e w' hR => by
  obtain ⟨v, h1, h2, h3⟩ := k e w' hR
  exact ⟨v, h1, h2, h3.out⟩⟩
end
section
variable {P : Program} {ops : Array Oper} {Q : Exit → Act → World → Prop} {S : World → Prop} {K : Act → World → Prop} {i : Nat} {r : List (Bool × Nat)} {a : Act} {w : World}
theorem sq_psk (L : List (Nat × Value)) (k : seqH P ops Q S K r (putS ops L a) w) (h : sayS P ops L a = L.map (fun q => (true, fun w => .ok (.value q.2) w)) := by kernel_rfl) : seqH P ops Q S K (preS L r) a w := sq_ps L h k
theorem g_psk (L : List (Nat × Value)) (k : SQ P ops Q S K r (putS ops L a) w) (h : sayS P ops L a = L.map (fun q => (true, fun w => .ok (.value q.2) w)) := by kernel_rfl) : SQ P ops Q S K (preS L r) a w := g_ps L h k
theorem sq_nok (L : List Nat) (k : seqH P ops Q S K r (putS ops (L.map (·, undef)) a) w) (h : noS ops L a = L.map (fun _ => false) := by kernel_rfl) : seqH P ops Q S K (preS (L.map (·, undef)) r) a w := sq_no L h k
theorem g_nok (L : List Nat) (k : SQ P ops Q S K r (putS ops (L.map (·, undef)) a) w) (h : noS ops L a = L.map (fun _ => false) := by kernel_rfl) : SQ P ops Q S K (preS (L.map (·, undef)) r) a w := g_no L h k
theorem sq_ldk (d : Option Tmp) {t : TypeId} {p v : Value} (F : ∀ w, S w → (Instr.loadAt t p).run P w = .ok v w) (k : seqH P ops Q S K r (a.put d v) w) (h : ((oAt ops i).dst, Region.wanted (oAt ops i) (yielded ops a.tmps), (loadOf (oAt ops i).op).map (fun q => (q.1, a.eval q.2))) = (d, true, some (t, p)) := by kernel_rfl) : seqH P ops Q S K ((true, i) :: r) a w := sq_ld d F h k
theorem g_ldk (d : Option Tmp) {t : TypeId} {p v : Value} (F : ∀ w, S w → (Instr.loadAt t p).run P w = .ok v w) (k : SQ P ops Q S K r (a.put d v) w) (h : ((oAt ops i).dst, Region.wanted (oAt ops i) (yielded ops a.tmps), (loadOf (oAt ops i).op).map (fun q => (q.1, a.eval q.2))) = (d, true, some (t, p)) := by kernel_rfl) : SQ P ops Q S K ((true, i) :: r) a w := g_ld d F h k
theorem sq_ck (d : Option Tmp) {f : FuncId} {fn : Func} {vs : List Value} {R : Ending → World → Prop} (hf : P.funcs[f]? = some fn) (C : Calls P f vs.toArray w R) (k : ∀ e w', R e w' → ∃ v, e = .returned v ∧ S w' ∧ seqH P ops Q S K r (a.put d v) w') (h : (fn.name == "runtime.NumGoroutine", fn.body.isSome, (oAt ops i).dst, Nat.blt i ops.size, Region.wanted (oAt ops i) (yielded ops a.tmps), (callOf (oAt ops i).op).map (fun p => (p.1, p.2.map a.eval))) = (false, true, d, true, true, some (f, vs)) := by kernel_rfl) : seqH P ops Q S K ((false, i) :: r) a w := sq_c d hf C h k
theorem g_ck (d : Option Tmp) {f : FuncId} {fn : Func} {vs : List Value} {R : Ending → World → Prop} (hf : P.funcs[f]? = some fn) (C : Calls P f vs.toArray w R) (k : ∀ e w', R e w' → ∃ v, e = .returned v ∧ S w' ∧ SQ P ops Q S K r (a.put d v) w') (h : (fn.name == "runtime.NumGoroutine", fn.body.isSome, (oAt ops i).dst, Nat.blt i ops.size, Region.wanted (oAt ops i) (yielded ops a.tmps), (callOf (oAt ops i).op).map (fun p => (p.1, p.2.map a.eval))) = (false, true, d, true, true, some (f, vs)) := by kernel_rfl) : SQ P ops Q S K ((false, i) :: r) a w := g_c d hf C h k
theorem sq_stk (t : TypeId) (g : Nat) (C' : Array Value) {C : Array Value} {t0 : TypeId} (H : w.heap[g]? = some (.cells C t0 (0, 0))) (hs : (P.info? t).map (·.size) = some C'.size) (hc : C.size = C'.size) (hS : S (w.setRow g C')) (k : seqH P ops Q S K r a (w.setRow g C')) (h1 : C'.all (·.oneCell') = true := by kernel_rfl) (h : ((oAt ops i).dst, Nat.blt i ops.size, Region.wanted (oAt ops i) (yielded ops a.tmps), (storeOf (oAt ops i).op).map (fun q => (q.1, a.eval q.2.1, a.eval q.2.2))) = (none, true, true, some (t, .pointer (some ⟨g, 0, none⟩), .agg C')) := by kernel_rfl) : seqH P ops Q S K ((false, i) :: r) a w := sq_st t g C' H hs hc h1 hS h k
theorem sq_fink (a' : Act) (k : K a' w) (h : a = a' := by kernel_rfl) : seqH P ops Q S K [] a w := sq_fin a' h k
theorem g_normk (a' : Act) (k : SQ P ops Q S K r a' w) (h : a = a' := by kernel_rfl) : SQ P ops Q S K r a w := g_norm a' h k
theorem wp_region_linek {id : Nat} {a : Act} {w : World} (sched : List (Bool × Nat)) (hS : S w) (h : seqH P ops Q S (fun a' w' => Q .normal a' w') sched a w) (hn : sched.map (·.2) = List.range ops.size := by kernel_rfl) (hb : (sched.all fun s => Nat.blt s.2 ops.size) = true := by kernel_rfl) : (Code.region id ops false).wp P Q a w := wp_region_line sched hn hb hS h
theorem sq_gok {id : Nat} {a : Act} {w : World} (sched : List (Bool × Nat)) (hS : S w.drew) (h : seqH P ops Q S (fun a' w' => Q .normal a' w') sched a w.drew) (hm : (P.follows .mixedOrders, Region.noSelect ops, schedI (infoS ops) sched 0, sched.length == ops.size, allAt (fun j _ => (maskAll sched 0).testBit j) 0 (infoS ops)) = (true, true, true, true, true) := by kernel_rfl) (hQ : ∀ d v c a w, Q (.panic c) (Act.put a d v) w → Q (.panic c) a w := by intro d _ _ _ _ h; first | cases h.1 | (cases d <;> exact h)) : (Code.region id ops true).wp P Q a w := sq_go sched hm hQ hS h
theorem m_seqi {M f g : Nat} (sched : List (Bool × Nat)) (M' : Nat) (hS : S w) (h : seqH P ops Q S (wpM P .any ops Q S f M') sched a w) (hs : Region.noSelect ops = true := by kernel_rfl) (hQ : ∀ d v c a w, Q (.panic c) (Act.put a d v) w → Q (.panic c) a w := by intro d _ _ _ _ h; first | cases h.1 | (cases d <;> exact h)) (hc : schedI (infoS ops) sched M = true := by kernel_rfl) (hM : maskAll sched M = M' := by kernel_rfl) (hf : (g == f + sched.length) = true := by kernel_rfl) : wpM P .any ops Q S g M a w := m_seq (infoS ops) sched M' (tells_infoS _ _) hs hQ hc hM hf hS h
theorem m_seqk {md : Region.Mode} {M f g : Nat} (I : List OpI) (sched : List (Bool × Nat)) (M' : Nat) (hS : S w) (h : seqH P ops Q S (wpM P md ops Q S f M') sched a w) (hI : tellsI md ops ops.toList I = true := by kernel_rfl) (hs : Region.noSelect ops = true := by kernel_rfl) (hQ : ∀ d v c a w, Q (.panic c) (Act.put a d v) w → Q (.panic c) a w := by intro d _ _ _ _ h; first | cases h.1 | (cases d <;> exact h)) (hc : schedI I sched M = true := by kernel_rfl) (hM : maskAll sched M = M' := by kernel_rfl) (hf : (g == f + sched.length) = true := by kernel_rfl) : wpM P md ops Q S g M a w := m_seq I sched M' hI hs hQ hc hM hf hS h
theorem m_waysi {M f g : Nat} (rs : List Nat) (h : ∀ i ∈ rs, seqH P ops Q S (wpM P .any ops Q S f (M ||| (1 <<< i))) [(false, i)] a w) (hr : readyI M 0 (infoS ops) = rs := by kernel_rfl) (hne : rs.isEmpty = false := by kernel_rfl) (hf : (g == f + 1) = true := by kernel_rfl) : wpM P .any ops Q S g M a w := m_ways (infoS ops) rs (tells_infoS _ _) hr hne hf h
theorem m_waysk {md : Region.Mode} {M f g : Nat} (I : List OpI) (rs : List Nat) (h : ∀ i ∈ rs, seqH P ops Q S (wpM P md ops Q S f (M ||| (1 <<< i))) [(false, i)] a w) (hI : tellsI md ops ops.toList I = true := by kernel_rfl) (hr : readyI M 0 I = rs := by kernel_rfl) (hne : rs.isEmpty = false := by kernel_rfl) (hf : (g == f + 1) = true := by kernel_rfl) : wpM P md ops Q S g M a w := m_ways I rs hI hr hne hf h
theorem m_donei {M f : Nat} (a' : Act) (h : Q .normal a' w) (hr : readyI M 0 (infoS ops) = [] := by kernel_rfl) (ha : a = a' := by kernel_rfl) : wpM P .any ops Q S f M a w := m_done (infoS ops) (tells_infoS _ _) hr a' ha h
theorem m_donek {md : Region.Mode} {M f : Nat} (I : List OpI) (a' : Act) (h : Q .normal a' w) (hI : tellsI md ops ops.toList I = true := by kernel_rfl) (hr : readyI M 0 I = [] := by kernel_rfl) (ha : a = a' := by kernel_rfl) : wpM P md ops Q S f M a w := m_done I hI hr a' ha h
theorem m_maskk {md : Region.Mode} {M M' f : Nat} (k : wpM P md ops Q S f M' a w) (h : M = M' := by kernel_rfl) : wpM P md ops Q S f M a w := m_mask h k
end
end Go.Proofs.YtdajgcgliidjbaaGreat

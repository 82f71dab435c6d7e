import Derived.OrdersHeld
import Derived.Tactics
import Derived.KernelRfl
namespace Go.Proofs.YtdajgcgliidjbaaGreat
structure OpI where
 d : Nat
 dst : Option Nat
 looks : List Nat
def depsMask (md : Region.Mode) (l : List Edge) : Nat := l.foldr (fun e m => if Region.binds md e then m ||| (1 <<< e.on) else m) 0
theorem depsMask_bit (md : Region.Mode) : ∀ (l : List Edge) (k : Nat), (depsMask md l).testBit k = true ↔ ∃ e ∈ l, Region.binds md e = true ∧ e.on = k
 | [], k => by simp [depsMask]
 | e :: l, k => by
  have ih := depsMask_bit md l k
  unfold depsMask at *
  simp only [List.foldr_cons]
  by_cases hb : Region.binds md e = true
  ·rw [if_pos hb, Nat.testBit_or, Bool.or_eq_true, ih, Nat.one_shiftLeft, Nat.testBit_two_pow]
   constructor
   ·rintro (⟨x, hx, h1, h2⟩ | h)
    ·exact ⟨x, List.mem_cons_of_mem _ hx, h1, h2⟩
    ·exact ⟨e, List.mem_cons_self, hb, by simpa using h⟩
   ·rintro ⟨x, hx, h1, h2⟩
    rcases List.mem_cons.1 hx with rfl | hx
    ·exact .inr (by simpa using h2)
    ·exact .inl ⟨x, hx, h1, h2⟩
  ·rw [if_neg hb, ih]
   constructor
   ·rintro ⟨x, hx, h1, h2⟩; exact ⟨x, List.mem_cons_of_mem _ hx, h1, h2⟩
   ·rintro ⟨x, hx, h1, h2⟩
    rcases List.mem_cons.1 hx with rfl | hx
    ·exact absurd h1 hb
    ·exact ⟨x, hx, h1, h2⟩
def tellsI (md : Region.Mode) (ops : Array Oper) : List Oper → List OpI → Bool
 | [], [] => true
 | o :: l, x :: r => (depsMask md o.after.toList == x.d) && (o.dst == x.dst) && (o.looksAt ops).all (x.looks.contains ·) && tellsI md ops l r
 | _, _ => false
theorem tellsI_len {md : Region.Mode} {ops : Array Oper} : ∀ {l : List Oper} {I : List OpI}, tellsI md ops l I = true → l.length = I.length
 | [], [], _ => rfl
 | o :: l, x :: r, h => by
  simp only [tellsI, Bool.and_eq_true] at h
  simp [tellsI_len h.2]
 | [], x :: r, h => by simp [tellsI] at h
 | o :: l, [], h => by simp [tellsI] at h
theorem tellsI_at {md : Region.Mode} {ops : Array Oper} : ∀ {l : List Oper} {I : List OpI}, tellsI md ops l I = true → ∀ {i : Nat} {o : Oper}, l[i]? = some o →
  ∃ x, I[i]? = some x ∧ depsMask md o.after.toList = x.d ∧ o.dst = x.dst ∧ ∀ t ∈ o.looksAt ops, t ∈ x.looks
 | [], _, _, i, o, ho => by simp at ho
 | o :: l, [], h, _, _, _ => by simp [tellsI] at h
 | o :: l, x :: r, h, i, o', ho => by
  simp only [tellsI, Bool.and_eq_true, beq_iff_eq] at h
  obtain ⟨⟨⟨h1, h2⟩, h3⟩, h4⟩ := h
  cases i with
  | zero =>
   simp at ho
   subst ho
   refine ⟨x, rfl, h1, h2, fun t ht => ?_⟩
   have := List.all_eq_true.1 h3 t ht
   simpa using this
  | succ i =>
   simp at ho
   obtain ⟨y, hy, hr⟩ := tellsI_at h4 ho
   exact ⟨y, by simpa using hy, hr⟩
def apartI (x y : OpI) : Bool :=
  (match x.dst with
   | some d => !(y.looks.contains d) && y.dst != some d
   | none => true) &&
  (match y.dst with
   | some d => !(x.looks.contains d)
   | none => true)
theorem apartI_spec {ops : Array Oper} {o o' : Oper} {x y : OpI} (h : apartI x y = true) (h1 : o.dst = x.dst) (h2 : o'.dst = y.dst) (l1 : ∀ t ∈ o.looksAt ops, t ∈ x.looks) (l2 : ∀ t ∈ o'.looksAt ops, t ∈ y.looks) : o.apart ops o' = true := by
 unfold apartI at h
 unfold Oper.apart
 rw [h1, h2]
 simp only [Bool.and_eq_true] at h ⊢
 refine ⟨?_, ?_⟩
 ·cases hx : x.dst with
  | none => rfl
  | some d =>
   have h := h.1
   simp only [hx, Bool.and_eq_true, Bool.not_eq_true', bne_iff_ne, ne_eq] at h ⊢
   refine ⟨?_, h.2⟩
   rw [Bool.eq_false_iff]
   intro hc
   have := l2 d (by simpa using hc)
   rw [Bool.eq_false_iff] at h
   exact h.1 (by simpa using this)
 ·cases hy : y.dst with
  | none => rfl
  | some d =>
   have h := h.2
   simp only [hy, Bool.not_eq_true'] at h ⊢
   rw [Bool.eq_false_iff]
   intro hc
   have := l1 d (by simpa using hc)
   rw [Bool.eq_false_iff] at h
   exact h (by simpa using this)
def allAt (p : Nat → OpI → Bool) : Nat → List OpI → Bool
 | _, [] => true
 | k, x :: r => p k x && allAt p (k + 1) r
theorem allAt_at {p : Nat → OpI → Bool} : ∀ {k : Nat} {l : List OpI}, allAt p k l = true → ∀ {j : Nat} {x : OpI}, l[j]? = some x → p (k + j) x = true
 | _, [], _, j, x, hx => by simp at hx
 | k, y :: r, h, j, x, hx => by
  simp only [allAt, Bool.and_eq_true] at h
  cases j with
  | zero => simp at hx; subst hx; exact h.1
  | succ j =>
   have := allAt_at h.2 (j := j) (x := x) (by simpa using hx)
   rw [show k + (j + 1) = k + 1 + j from by omega]
   exact this
def schedI (I : List OpI) : List (Bool × Nat) → Nat → Bool
  | [], _ => true
  | (t, i) :: r, M => (match I[i]? with
    | none => false
    | some x => !(M.testBit i) && (x.d &&& M == x.d) &&
      (match t with
       | true => allAt (fun j y => j == i || M.testBit j || y.d.testBit i || apartI x y) 0 I
       | false => allAt (fun j y => j == i || M.testBit j || !(y.d &&& M == y.d)) 0 I)) && schedI I r (M ||| (1 <<< i))
def Told (listed : Array Bool) (n M : Nat) : Prop := listed.size = n ∧ ∀ k, listed.getD k false = M.testBit k
theorem Told.start (n : Nat) : Told (Array.replicate n false) n 0 := ⟨by simp, fun k => by
 rw [Nat.zero_testBit, Array.getD_eq_getD_getElem?, Array.getElem?_replicate]
 split <;> rfl⟩
theorem Told.set {listed : Array Bool} {n M : Nat} (h : Told listed n M) {i : Nat} (hi : i < n) : Told (listed.setIfInBounds i true) n (M ||| (1 <<< i)) := by
 refine ⟨by simp [h.1], fun k => ?_⟩
 have h2 := h.2 k
 rw [Nat.testBit_or, Nat.one_shiftLeft, Nat.testBit_two_pow]
 by_cases e : i = k
 ·subst e
  have hk' : i < listed.size := by rw [h.1]; exact hi
  simp [Array.getD_eq_getD_getElem?, hk']
 ·simp only [Array.getD_eq_getD_getElem?, Array.getElem?_setIfInBounds_ne e] at h2 ⊢
  rw [h2]
  simp [e]
theorem Told.yet {listed : Array Bool} {n M k : Nat} (h : Told listed n M) (hk : k < n) : listed.getD k true = M.testBit k := by
 have hk' : k < listed.size := by rw [h.1]; exact hk
 rw [← h.2 k, Array.getD_eq_getD_getElem?, Array.getD_eq_getD_getElem?, Array.getElem?_eq_getElem hk']
 rfl
theorem sub_mask {d M : Nat} (h : (d &&& M == d) = true) {k : Nat} (hk : d.testBit k = true) : M.testBit k = true := by
 have e : (d &&& M).testBit k = d.testBit k := by rw [beq_iff_eq.1 h]
 rw [Nat.testBit_and, hk, Bool.true_and] at e
 exact e
theorem not_sub {d M : Nat} (h : (d &&& M == d) = false) : ∃ k, d.testBit k = true ∧ M.testBit k = false := by
 rcases Classical.em (∃ k, d.testBit k = true ∧ M.testBit k = false) with h1 | h1
 ·exact h1
 ·have e : d &&& M = d := Nat.eq_of_testBit_eq fun k => by
   rw [Nat.testBit_and]
   cases hd : d.testBit k with
   | false => rfl
   | true =>
    cases hM : M.testBit k with
    | true => rfl
    | false => exact absurd ⟨k, hd, hM⟩ h1
  rw [e] at h
  simp at h
section
variable {P : Program} {ops : Array Oper} {Q : Exit → Act → World → Prop} {md : Region.Mode} {S : World → Prop}
def oAt (ops : Array Oper) (i : Nat) : Oper := ops.getD i default
theorem oAt_some {i : Nat} (h : i < ops.size) : ops[i]? = some (oAt ops i) := by
 unfold oAt
 rw [Array.getElem?_eq_getElem h, Array.getD_eq_getD_getElem?, Array.getElem?_eq_getElem h]
 rfl
def seqH (P : Program) (ops : Array Oper) (Q : Exit → Act → World → Prop) (S : World → Prop) (K : Act → World → Prop) : List (Bool × Nat) → Act → World → Prop
 | [], a, w => K a w
 | (true, i) :: r, a, w => ∃ v, YieldsIf P ops S (oAt ops i) v a ∧ seqH P ops Q S K r (a.put (oAt ops i).dst v) w
 | (false, i) :: r, a, w => wpOp P ops Q i (fun a' w' => S w' ∧ seqH P ops Q S K r a' w') a w
def listAll : List (Bool × Nat) → Array Bool → Array Bool
 | [], l => l
 | (_, i) :: r, l => listAll r (l.setIfInBounds i true)
theorem wpAnyH_seq {I : List OpI} (hI : tellsI md ops ops.toList I = true) (hs : Region.noSelect ops = true) (hQ : ∀ d v c a w, Q (.panic c) (Act.put a d v) w → Q (.panic c) a w) {f : Nat} :
  ∀ (sched : List (Bool × Nat)) (M : Nat) (listed : Array Bool) (a : Act) (w : World), Told listed ops.size M → schedI I sched M = true → S w →
   seqH P ops Q S (wpAnyH P md ops Q S f (listAll sched listed)) sched a w → wpAnyH P md ops Q S (f + sched.length) listed a w
 | [], M, listed, a, w, _, _, _, H => H
 | (t, i) :: r, M, listed, a, w, hT, hc, hS, H => by
  have hlen : ops.size = I.length := by have := tellsI_len hI; simpa using this
  simp only [schedI, Bool.and_eq_true] at hc
  obtain ⟨hc1, hc2⟩ := hc
  cases hx : I[i]? with
  | none => rw [hx] at hc1; cases hc1
  | some x =>
   rw [hx] at hc1
   simp only [Bool.and_eq_true, Bool.not_eq_true'] at hc1
   obtain ⟨⟨hn, hd⟩, hq⟩ := hc1
   have hi : i < ops.size := by rw [hlen]; exact (List.getElem?_eq_some_iff.1 hx).1
   have ho := oAt_some (ops := ops) hi
   obtain ⟨x', hx', e1, e2, e3⟩ := tellsI_at hI (i := i) (o := oAt ops i) (by simpa using ho)
   rw [hx] at hx'
   obtain rfl := Option.some.inj hx'
   have hup : ∀ {j : Nat} {oj : Oper} {y : OpI}, ops[j]? = some oj → depsMask md oj.after.toList = y.d → M.testBit j = false → ((y.d &&& M == y.d) = true ↔ j ∈ Region.ready md ops listed) := by
    intro j oj y hoj ey hnj
    have hj : j < ops.size := (Array.getElem?_eq_some_iff.1 hoj).1
    constructor
    ·intro h
     refine mem_ready.2 ⟨by rw [hT.yet hj, hnj], oj, hoj, fun e he hb => ?_⟩
     have hbit := (depsMask_bit md oj.after.toList e.on).2 ⟨e, by simpa using he, hb, rfl⟩
     rw [ey] at hbit
     rw [hT.2]
     exact sub_mask h hbit
    ·intro h
     obtain ⟨_, o', ho', hall⟩ := mem_ready.1 h
     rw [hoj] at ho'
     obtain rfl := Option.some.inj ho'
     cases hc : (y.d &&& M == y.d) with
     | true => rfl
     | false =>
      obtain ⟨k, hk, hM⟩ := not_sub hc
      rw [← ey] at hk
      obtain ⟨e, he, hb, rfl⟩ := (depsMask_bit md oj.after.toList k).1 hk
      have := hall e (by simpa using he) hb
      rw [hT.2, hM] at this
      cases this
   have hr : i ∈ Region.ready md ops listed := (hup ho e1 hn).1 hd
   have hT' := hT.set hi
   cases t with
   | true =>
    simp only at hq
    obtain ⟨v, hy, H⟩ := H
    have ih := wpAnyH_seq hI hs hQ r _ _ _ _ hT' hc2 hS H
    refine wpAnyH_first ho (Region.noSelect_spec hs) (hQ _ v) _ listed a w ?_ hr hy hS ih
    intro j oj hoj hne hun hno
    have hj : j < ops.size := (Array.getElem?_eq_some_iff.1 hoj).1
    obtain ⟨y, hy1, y1, y2, y3⟩ := tellsI_at hI (i := j) (o := oj) (by simpa using hoj)
    have hap := allAt_at hq hy1
    rw [Nat.zero_add] at hap
    rw [hT.yet hj] at hun
    simp only [Bool.or_eq_true, beq_iff_eq, hne, false_or, hun, Bool.false_eq_true] at hap
    rcases hap with hap | hap
    ·rw [← y1] at hap
     obtain ⟨e, he, hb, hon⟩ := (depsMask_bit md oj.after.toList i).1 hap
     exact absurd hon (hno e (by simpa using he) hb)
    ·exact apartI_spec hap e2 y2 e3 y3
   | false =>
    simp only at hq
    refine ⟨fun h0 => absurd hr (by rw [h0]; simp), fun j hj => ?_⟩
    obtain ⟨hun, oj, hoj, _⟩ := mem_ready.1 hj
    have hjl : j < ops.size := (Array.getElem?_eq_some_iff.1 hoj).1
    obtain ⟨y, hy1, y1, _, _⟩ := tellsI_at hI (i := j) (o := oj) (by simpa using hoj)
    have hap := allAt_at hq hy1
    rw [Nat.zero_add] at hap
    rw [hT.yet hjl] at hun
    rw [(hup hoj y1 hun).2 hj] at hap
    simp only [hun, Bool.or_false, Bool.not_true, beq_iff_eq] at hap
    subst hap
    refine wpOp_mono (fun a' w' h' => ⟨h'.1, wpAnyH_seq hI hs hQ r _ _ _ _ hT' hc2 h'.1 h'.2⟩) H
def maskAll : List (Bool × Nat) → Nat → Nat
 | [], M => M
 | (_, i) :: r, M => maskAll r (M ||| (1 <<< i))
theorem Told.all {n : Nat} : ∀ {sched : List (Bool × Nat)} {I : List OpI} {M : Nat} {listed : Array Bool}, I.length = n → schedI I sched M = true → Told listed n M → Told (listAll sched listed) n (maskAll sched M)
 | [], _, _, _, _, _, h => h
 | (t, i) :: r, I, M, listed, hl, hc, h => by
  simp only [schedI, Bool.and_eq_true] at hc
  have hi : i < n := by
   cases hx : I[i]? with
   | none => rw [hx] at hc; cases hc.1
   | some x => rw [← hl]; exact (List.getElem?_eq_some_iff.1 hx).1
  show Told (listAll r (listed.setIfInBounds i true)) n (maskAll r (M ||| (1 <<< i)))
  exact Told.all hl hc.2 (h.set hi)
theorem wp_region_seq {id : Nat} {a : Act} {w : World} (I : List OpI) (sched : List (Bool × Nat)) (hm : P.follows .mixedOrders = true) (hI : tellsI .any ops ops.toList I = true) (hs : Region.noSelect ops = true) (hc : schedI I sched 0 = true)
  (hn : (sched.length == ops.size) = true) (hf : allAt (fun j _ => (maskAll sched 0).testBit j) 0 I = true) (hQ : ∀ d v c a w, Q (.panic c) (Act.put a d v) w → Q (.panic c) a w)
  (hS : S w.drew) (h : seqH P ops Q S (fun a' w' => Q .normal a' w') sched a w.drew) : (Code.region id ops true).wp P Q a w := by
 have hlen : I.length = ops.size := by have := tellsI_len hI; simpa using this.symm
 have hT := Told.start ops.size
 have hA := Told.all hlen hc hT
 have hr : Region.ready .any ops (listAll sched (Array.replicate ops.size false)) = [] := by
  refine List.eq_nil_iff_forall_not_mem.2 fun j hj => ?_
  obtain ⟨hun, oj, hoj, _⟩ := mem_ready.1 hj
  have hjl : j < ops.size := (Array.getElem?_eq_some_iff.1 hoj).1
  have hx : I[j]? = some I[j] := List.getElem?_eq_getElem (by omega)
  have := allAt_at hf hx
  rw [Nat.zero_add] at this
  rw [hA.yet hjl, this] at hun
  cases hun
 refine wp_region_held (S := S) hm ?_
 have mono : ∀ (sc : List (Bool × Nat)) (a : Act) (w : World), seqH P ops Q S (fun a' w' => Q .normal a' w') sc a w → seqH P ops Q S (wpAnyH P .any ops Q S 0 (listAll sched (Array.replicate ops.size false))) sc a w := by
  intro sc
  induction sc with
  | nil => intro a w h; exact ⟨hr, h⟩
  | cons x r ih =>
   intro a w h
   obtain ⟨t, i⟩ := x
   cases t with
   | true => obtain ⟨v, h1, h2⟩ := h; exact ⟨v, h1, ih _ _ h2⟩
   | false => exact wpOp_mono (fun a' w' h' => ⟨h'.1, ih _ _ h'.2⟩) h
 have e := wpAnyH_seq hI hs hQ (f := 0) sched 0 (Array.replicate ops.size false) a w.drew hT hc hS (mono _ _ _ h)
 rw [Nat.zero_add, beq_iff_eq.1 hn] at e
 exact e
variable {K : Act → World → Prop} {i : Nat} {r : List (Bool × Nat)} {a : Act} {w : World}
theorem sq_take (d : Option Tmp) (v : Value) (hd : (oAt ops i).dst = d) (hy : YieldsIf P ops S (oAt ops i) v a) (k : seqH P ops Q S K r (a.put d v) w) : seqH P ops Q S K ((true, i) :: r) a w := ⟨v, hy, by rw [hd]; exact k⟩
theorem sq_pure (d : Option Tmp) (v : Value) (hd : (oAt ops i).dst = d) (hw : Region.wanted (oAt ops i) (yielded ops a.tmps) = true) (hv : ∀ w', (execOp a.eval (oAt ops i)).run P w' = .ok (.value v) w') (k : seqH P ops Q S K r (a.put d v) w) : seqH P ops Q S K ((true, i) :: r) a w :=
 sq_take d v hd (.inl ⟨hw, fun w' _ => hv w'⟩) k
theorem sq_held (d : Option Tmp) (v : Value) (hd : (oAt ops i).dst = d) (hw : Region.wanted (oAt ops i) (yielded ops a.tmps) = true) (hv : ∀ w', S w' → (execOp a.eval (oAt ops i)).run P w' = .ok (.value v) w') (k : seqH P ops Q S K r (a.put d v) w) : seqH P ops Q S K ((true, i) :: r) a w :=
 sq_take d v hd (.inl ⟨hw, hv⟩) k
theorem sq_op (hi : Nat.blt i ops.size = true) (hw : Region.wanted (oAt ops i) (yielded ops a.tmps) = true) (H : (oAt ops i).wp P a w (fun a' w' => S w' ∧ seqH P ops Q S K r a' w') Q) : seqH P ops Q S K ((false, i) :: r) a w := by
 show wpOp P ops Q i _ a w
 unfold wpOp
 rw [oAt_some (Nat.blt_eq.mp hi)]
 simp only [hw, if_true]
 exact .inl H
theorem sq_call (d : Option Tmp) (f : FuncId) (vs : Array Value) (hd : (oAt ops i).dst = d) (hi : Nat.blt i ops.size = true) (hw : Region.wanted (oAt ops i) (yielded ops a.tmps) = true) (he : ∀ w', (execOp a.eval (oAt ops i)).run P w' = .ok (.enter f vs) w')
  (H : Calls P f vs w fun e w' => ∃ v, e = .returned v ∧ S w' ∧ seqH P ops Q S K r (a.put d v) w') : seqH P ops Q S K ((false, i) :: r) a w := by
 refine sq_op hi hw ?_
 unfold Oper.wp
 rw [he w, Oper.upon_enter]
 refine Calls.mono H ?_
 rintro e w' ⟨v, rfl, h1, h2⟩
 rw [← hd] at h2
 exact ⟨h1, h2⟩
theorem sq_done (k : K a w) : seqH P ops Q S K [] a w := k
theorem sq_fin (a' : Act) (h : a = a') (k : K a' w) : seqH P ops Q S K [] a w := by rw [h]; exact k
def callOf : Op → Option (FuncId × List Operand)
 | .call c => match c.callee with
  | .value (.func f) => some (f, c.args.toList)
  | _ => none
 | _ => none
theorem callOf_spec {o : Op} {f : FuncId} {xs : List Operand} (h : callOf o = some (f, xs)) : ∃ ts, o = .call { callee := .value (.func f), args := xs.toArray, argTypes := ts } := by
 unfold callOf at h
 split at h
 ·rename_i c
  split at h
  ·rename_i g hc
   obtain ⟨callee, args, ts⟩ := c
   simp only at hc
   subst hc
   simp only [Option.some.injEq, Prod.mk.injEq] at h
   obtain ⟨rfl, rfl⟩ := h
   exact ⟨ts, by simp⟩
  ·cases h
 ·cases h
theorem enters_fn {f : FuncId} {fn : Func} (hf : P.funcs[f]? = some fn) (hname : (fn.name == "runtime.NumGoroutine") = false) (hb : fn.body.isSome = true) (args : Array Value) (w : World) : (callFunc f args).run P w = .ok (.enter f args) w := by
 have h1 : fn.name ≠ "runtime.NumGoroutine" := by simpa using hname
 obtain ⟨c, hc⟩ := Option.isSome_iff_exists.1 hb
 simp [callFunc, hf, h1, hc]
theorem run_callOf {o : Oper} {f : FuncId} {vs : List Value} {fn : Func} (hf : P.funcs[f]? = some fn) (hname : (fn.name == "runtime.NumGoroutine") = false) (hb : fn.body.isSome = true)
  (ho : (callOf o.op).map (fun p => (p.1, p.2.map a.eval)) = some (f, vs)) (w : World) : (execOp a.eval o).run P w = .ok (.enter f vs.toArray) w := by
 cases hc : callOf o.op with
 | none => rw [hc] at ho; cases ho
 | some p =>
  obtain ⟨g, xs⟩ := p
  rw [hc] at ho
  simp only [Option.map_some, Option.some.injEq, Prod.mk.injEq] at ho
  obtain ⟨rfl, rfl⟩ := ho
  obtain ⟨ts, ho⟩ := callOf_spec hc
  unfold execOp
  rw [ho]
  go_simp
  exact enters_fn hf hname hb _ w
theorem sq_fn {f : FuncId} {fn : Func} (d : Option Tmp) (vs : List Value) (hf : P.funcs[f]? = some fn) (hname : (fn.name == "runtime.NumGoroutine") = false) (hb : fn.body.isSome = true) (hd : (oAt ops i).dst = d) (hi : Nat.blt i ops.size = true) (hw : Region.wanted (oAt ops i) (yielded ops a.tmps) = true)
  (ho : (callOf (oAt ops i).op).map (fun p => (p.1, p.2.map a.eval)) = some (f, vs))
  (H : Calls P f vs.toArray w fun e w' => ∃ v, e = .returned v ∧ S w' ∧ seqH P ops Q S K r (a.put d v) w') : seqH P ops Q S K ((false, i) :: r) a w :=
 sq_call d f vs.toArray hd hi hw (run_callOf hf hname hb ho) H
def wpM (P : Program) (md : Region.Mode) (ops : Array Oper) (Q : Exit → Act → World → Prop) (S : World → Prop) (f M : Nat) (a : Act) (w : World) : Prop := ∀ listed, Told listed ops.size M → wpAnyH P md ops Q S f listed a w
theorem seqH_mono {K K' : Act → World → Prop} (h : ∀ a w, K a w → K' a w) : ∀ (sc : List (Bool × Nat)) (a : Act) (w : World), seqH P ops Q S K sc a w → seqH P ops Q S K' sc a w
 | [], a, w, H => h a w H
 | (true, i) :: r, a, w, H => by obtain ⟨v, h1, h2⟩ := H; exact ⟨v, h1, seqH_mono h r _ _ h2⟩
 | (false, i) :: r, a, w, H => wpOp_mono (fun a' w' h' => ⟨h'.1, seqH_mono h r _ _ h'.2⟩) H
theorem m_begin {id : Nat} {a : Act} {w : World} (hm : P.follows .mixedOrders = true) (f : Nat) (hn : (f == ops.size) = true) (h : wpM P .any ops Q S f 0 a w.drew) : (Code.region id ops true).wp P Q a w := by
 refine wp_region_held (S := S) hm ?_
 have e := h (Array.replicate ops.size false) (Told.start _)
 rw [beq_iff_eq.1 hn] at e
 exact e
theorem m_seq {a : Act} {w : World} {M f g : Nat} (I : List OpI) (sched : List (Bool × Nat)) (M' : Nat) (hI : tellsI md ops ops.toList I = true) (hs : Region.noSelect ops = true) (hQ : ∀ d v c a w, Q (.panic c) (Act.put a d v) w → Q (.panic c) a w) (hc : schedI I sched M = true) (hM : maskAll sched M = M') (hf : (g == f + sched.length) = true) (hS : S w)
  (h : seqH P ops Q S (wpM P md ops Q S f M') sched a w) : wpM P md ops Q S g M a w := fun listed hT => by
 rw [beq_iff_eq.1 hf]
 have hlen : I.length = ops.size := by have := tellsI_len hI; simpa using this.symm
 subst hM
 exact wpAnyH_seq hI hs hQ sched M listed a w hT hc hS (seqH_mono (fun a w h => h _ (Told.all hlen hc hT)) _ _ _ h)
def readyI (M : Nat) : Nat → List OpI → List Nat
 | _, [] => []
 | k, x :: r => if !(M.testBit k) && (x.d &&& M == x.d) then k :: readyI M (k + 1) r else readyI M (k + 1) r
theorem readyI_mem {M : Nat} : ∀ {l : List OpI} {k j : Nat}, j ∈ readyI M k l ↔ ∃ x, k ≤ j ∧ l[j - k]? = some x ∧ M.testBit j = false ∧ (x.d &&& M == x.d) = true
 | [], k, j => by simp [readyI]
 | x :: r, k, j => by
  have ih := readyI_mem (M := M) (l := r) (k := k + 1) (j := j)
  have cons : (∃ y, k ≤ j ∧ (x :: r)[j - k]? = some y ∧ M.testBit j = false ∧ (y.d &&& M == y.d) = true) ↔ ((j = k ∧ M.testBit k = false ∧ (x.d &&& M == x.d) = true) ∨ j ∈ readyI M (k + 1) r) := by
   rw [ih]
   constructor
   ·rintro ⟨y, h1, h2, h3, h4⟩
    rcases Nat.eq_or_lt_of_le h1 with rfl | h1
    ·left
     rw [Nat.sub_self] at h2
     simp at h2
     subst h2
     exact ⟨rfl, h3, h4⟩
    ·right
     refine ⟨y, h1, ?_, h3, h4⟩
     rw [show j - k = (j - (k + 1)) + 1 from by omega] at h2
     simpa using h2
   ·rintro (⟨rfl, h3, h4⟩ | ⟨y, h1, h2, h3, h4⟩)
    ·exact ⟨x, Nat.le_refl _, by simp, h3, h4⟩
    ·refine ⟨y, by omega, ?_, h3, h4⟩
     rw [show j - k = (j - (k + 1)) + 1 from by omega]
     simpa using h2
  rw [cons, show readyI M k (x :: r) = if !(M.testBit k) && (x.d &&& M == x.d) then k :: readyI M (k + 1) r else readyI M (k + 1) r from rfl]
  split
  ·rename_i hc
   simp only [Bool.and_eq_true, Bool.not_eq_true'] at hc
   rw [List.mem_cons]
   constructor
   ·rintro (rfl | h)
    ·exact .inl ⟨rfl, hc⟩
    ·exact .inr h
   ·rintro (⟨rfl, _⟩ | h)
    ·exact .inl rfl
    ·exact .inr h
  ·rename_i hc
   simp only [Bool.and_eq_true, Bool.not_eq_true'] at hc
   constructor
   ·exact .inr
   ·rintro (⟨rfl, h⟩ | h)
    ·exact absurd h hc
    ·exact h
theorem ready_mask {I : List OpI} (hI : tellsI md ops ops.toList I = true) {listed : Array Bool} {M : Nat} (hT : Told listed ops.size M) (j : Nat) : j ∈ Region.ready md ops listed ↔ j ∈ readyI M 0 I := by
 have hlen : I.length = ops.size := by have := tellsI_len hI; simpa using this.symm
 rw [mem_ready, readyI_mem]
 constructor
 ·rintro ⟨h1, o, ho, hall⟩
  have hj : j < ops.size := (Array.getElem?_eq_some_iff.1 ho).1
  obtain ⟨y, hy, e1, _, _⟩ := tellsI_at hI (i := j) (o := o) (by simpa using ho)
  rw [hT.yet hj] at h1
  refine ⟨y, Nat.zero_le _, by simpa using hy, h1, ?_⟩
  cases hc : (y.d &&& M == y.d) with
  | true => rfl
  | false =>
   obtain ⟨k, hk, hM⟩ := not_sub hc
   rw [← e1] at hk
   obtain ⟨e, he, hb, rfl⟩ := (depsMask_bit md o.after.toList k).1 hk
   have := hall e (by simpa using he) hb
   rw [hT.2, hM] at this
   cases this
 ·rintro ⟨x, _, hx, h1, h2⟩
  rw [Nat.sub_zero] at hx
  have hj : j < ops.size := by rw [← hlen]; exact (List.getElem?_eq_some_iff.1 hx).1
  obtain ⟨y, hy, e1, _, _⟩ := tellsI_at hI (i := j) (o := ops[j]) (by simp [hj])
  rw [hx] at hy
  obtain rfl := Option.some.inj hy
  refine ⟨by rw [hT.yet hj, h1], ops[j], Array.getElem?_eq_getElem hj, fun e he hb => ?_⟩
  have hbit := (depsMask_bit md ops[j].after.toList e.on).2 ⟨e, by simpa using he, hb, rfl⟩
  rw [e1] at hbit
  rw [hT.2]
  exact sub_mask h2 hbit
theorem m_ways {a : Act} {w : World} {M f g : Nat} (I : List OpI) (rs : List Nat) (hI : tellsI md ops ops.toList I = true) (hr : readyI M 0 I = rs) (hne : rs.isEmpty = false) (hf : (g == f + 1) = true) (h : ∀ i ∈ rs, seqH P ops Q S (wpM P md ops Q S f (M ||| (1 <<< i))) [(false, i)] a w) : wpM P md ops Q S g M a w := fun listed hT => by
 rw [beq_iff_eq.1 hf]
 refine ⟨fun h0 => ?_, fun j hj => ?_⟩
 ·cases rs with
  | nil => cases hne
  | cons j r =>
   have : j ∈ Region.ready md ops listed := (ready_mask hI hT j).2 (by rw [hr]; exact List.mem_cons_self)
   rw [h0] at this
   cases this
 ·have hj' := (ready_mask hI hT j).1 hj
  rw [hr] at hj'
  have hjl : j < ops.size := by
   obtain ⟨_, o, ho, _⟩ := mem_ready.1 hj
   exact (Array.getElem?_eq_some_iff.1 ho).1
  exact wpOp_mono (fun a' w' h' => ⟨h'.1, h'.2 _ (hT.set hjl)⟩) (h j hj')
theorem m_done {a : Act} {w : World} {M f : Nat} (I : List OpI) (hI : tellsI md ops ops.toList I = true) (hr : readyI M 0 I = []) (a' : Act) (ha : a = a') (h : Q .normal a' w) : wpM P md ops Q S f M a w := fun listed hT => by
 subst ha
 have e : Region.ready md ops listed = [] := List.eq_nil_iff_forall_not_mem.2 fun j hj => by
  have := (ready_mask hI hT j).1 hj
  rw [hr] at this
  cases this
 exact wpAnyH_done e h _
theorem m_mask {a : Act} {w : World} {M M' f : Nat} (h : M = M') (k : wpM P md ops Q S f M' a w) : wpM P md ops Q S f M a w := h ▸ k
end
end Go.Proofs.YtdajgcgliidjbaaGreat

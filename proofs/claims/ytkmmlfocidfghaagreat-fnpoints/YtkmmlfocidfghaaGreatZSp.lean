import Derived.Test.YtkmmlfocidfghaaGreatZLaw
import Derived.Test.YtkmmlfocidfghaaGreatJTri
import Derived.Test.YtkmmlfocidfghaaGreatYSpec
import Derived.Test.YtkmmlfocidfghaaGreatJRests
import Derived.Test.YtkmmlfocidfghaaGreatZPoint
/-
  The sum of two right points, reckoned as impl does: the same point.
-/
namespace Go.Proofs.YtkmmlfocidfghaaGreat
open Go.RowKit
def slopeT (p x1 y1 x2 y2 : ByteArray) : ByteArray := if x1 = x2 ∧ y1 = y2 then mulR (addR (addR (mulR x1 x1 p) (mulR x1 x1 p) p) (mulR x1 x1 p) p) (invR (addR y1 y1 p) p) p else mulR (subR y2 y1 p) (invR (subR x2 x1 p) p) p
/-- The sum, as texts. -/
def plusT (p : ByteArray) (a b : Tp) : Tp := if a.1 then b else if b.1 then a else if a.2.1 = b.2.1 ∧ a.2.2 = negR b.2.2 p then zeroT else
  (false, subR (subR (mulR (slopeT p a.2.1 a.2.2 b.2.1 b.2.2) (slopeT p a.2.1 a.2.2 b.2.1 b.2.2) p) a.2.1 p) b.2.1 p,
   subR (mulR (slopeT p a.2.1 a.2.2 b.2.1 b.2.2) (subR a.2.1 (subR (subR (mulR (slopeT p a.2.1 a.2.2 b.2.1 b.2.2) (slopeT p a.2.1 a.2.2 b.2.1 b.2.2) p) a.2.1 p) b.2.1 p) p) p) a.2.2 p)
/-- A text that is the rest with this number. -/
structure Nm (p x : ByteArray) (X : Pn) : Prop where
  r : restB x p = true
  e : (gV x, 0) = X
theorem Nm.two {p x : ByteArray} {X : Pn} (h : Nm p x X) : X.2 = 0 := by rw [← h.e]
theorem Nm.lt {p x : ByteArray} {X : Pn} (h : Nm p x X) : gV x < gV p := (restB_lt h.r).1
theorem Nm.txt {p x : ByteArray} {X : Pn} (h : Nm p x X) : gS X.1 = x := by rw [← h.e]; exact gS_gV (restB_lt h.r).2.1
theorem sub_num {x y p : ByteArray} (hm : modB p = true) (hx : restB x p = true) (hy : restB y p = true) : subR x y p = gS ((gV x + gV p - gV y) % gV p) := by unfold subR; rw [two_of hm hx hy, if_pos rfl]
theorem Nm.of {p : ByteArray} {k : Nat} {X : Pn} (hm : modB p = true) (h : k < gV p) (e : (k, 0) = X) : Nm p (gS k) X := ⟨rest_of_lt hm h, by rw [gV_gS]; exact e⟩
theorem Nm.mul {p x y : ByteArray} {X Y : Pn} (hm : modB p = true) (hx : Nm p x X) (hy : Nm p y Y) : Nm p (mulR x y p) (mulP (gV p) X Y) := by
  have h0 := mod_pos hm
  rw [mul_num hm hx.r hy.r]
  exact .of hm (Nat.mod_lt _ h0) (by rw [← hx.e, ← hy.e, mul_bare h0])
theorem Nm.add {p x y : ByteArray} {X Y : Pn} (hm : modB p = true) (hx : Nm p x X) (hy : Nm p y Y) : Nm p (addR x y p) (addP (gV p) X Y) := by
  have h0 := mod_pos hm
  rw [add_num hm hx.r hy.r]
  refine .of hm (Nat.mod_lt _ h0) ?_
  rw [← hx.e, ← hy.e]
  show _ = ((gV x + gV y) % gV p, (0 + 0) % gV p)
  rw [Nat.zero_mod]
theorem Nm.sub {p x y : ByteArray} {X Y : Pn} (hm : modB p = true) (hx : Nm p x X) (hy : Nm p y Y) : Nm p (subR x y p) (subP (gV p) X Y) := by
  have h0 := mod_pos hm
  rw [sub_num hm hx.r hy.r]
  refine .of hm (Nat.mod_lt _ h0) ?_
  rw [← hx.e, ← hy.e]
  show _ = ((gV x + gV p - gV y) % gV p, (0 + gV p - 0) % gV p)
  rw [Nat.zero_add, Nat.sub_zero, Nat.mod_self]
theorem Nm.inv {p x : ByteArray} {X : Pn} (hm : modB p = true) (hp : Prm (gV p)) (h4 : gV p % 4 = 3) (hx : Nm p x X) (hne : X ≠ (0, 0)) : Nm p (invR x p) (inv7 X (gV p)) := by
  have h0 := mod_pos hm
  have hin : InP2 (gV p) X := by rw [← hx.e]; exact ⟨hx.lt, h0⟩
  have e := mul_inv7 hp h4 hin hne
  have b := inv_bare (n := gV p) hx.two
  have hj := inv7_in (x := X) (n := gV p) h0
  obtain ⟨Y, hY⟩ : ∃ Y, inv7 X (gV p) = Y := ⟨_, rfl⟩
  rw [hY] at e b hj ⊢
  obtain ⟨y, y2⟩ := Y
  simp only at b
  subst b
  rw [← hx.e, mul_bare h0] at e
  have e1 : gV x * y % gV p = 1 := congrArg Prod.fst e
  have e2 : y * gV x % gV p = 1 := by rw [Nat.mul_comm]; exact e1
  have hg : Nat.gcd (gV p) (gV x) = 1 := by
    refine hp.cop fun hd => ?_
    have := Nat.dvd_trans hd (Nat.dvd_mul_right (gV x) y)
    rw [Nat.mod_eq_zero_of_dvd this] at e1
    cases e1
  have hb : invB x p = true := by unfold invB oneB; rw [hm, hx.r, decide_eq_true hg]; rfl
  unfold invR
  rw [hb, if_pos rfl, invN_eq hj.1 e2]
  exact .of hm hj.1 rfl
/-- A sum by a line, as texts. -/
theorem line_txt {p x1 y1 x2 s : ByteArray} {A B : Pn × Pn} {u d : Pn} (hm : modB p = true) (h1 : Nm p x1 A.1) (h2 : Nm p y1 A.2) (h3 : Nm p x2 B.1) (hs : Nm p s (mulP (gV p) u (inv7 d (gV p)))) :
    (false, subR (subR (mulR s s p) x1 p) x2 p, subR (mulR s (subR x1 (subR (subR (mulR s s p) x1 p) x2 p) p) p) y1 p) = txt2 (some (lineP (gV p) A B u d)) := by
  have hx : Nm p (subR (subR (mulR s s p) x1 p) x2 p) (lineP (gV p) A B u d).1 := ((hs.mul hm hs).sub hm h1).sub hm h3
  have hy : Nm p (subR (mulR s (subR x1 (subR (subR (mulR s s p) x1 p) x2 p) p) p) y1 p) (lineP (gV p) A B u d).2 := (hs.mul hm (h1.sub hm hx)).sub hm h2
  show _ = (false, gS (lineP (gV p) A B u d).1.1, gS (lineP (gV p) A B u d).2.1)
  rw [hx.txt, hy.txt]
theorem nm_of {p x : ByteArray} (h : restB x p = true) : Nm p x (gV x, 0) := ⟨h, rfl⟩
theorem sub_same {n x y : Nat} (hx : x < n) (hy : y < n) : subP n (x, 0) (y, 0) = (0, 0) ↔ x = y := by
  have e : subP n (x, 0) (y, 0) = ((x + n - y) % n, 0) := by
    show ((x + n - y) % n, (0 + n - 0) % n) = _
    rw [Nat.zero_add, Nat.sub_zero, Nat.mod_self]
  rw [e]
  constructor
  · intro h
    have h1 : (x + n - y) % n = 0 := congrArg Prod.fst h
    rcases Nat.lt_or_ge x y with k | k
    · rw [Nat.mod_eq_of_lt (by omega)] at h1; omega
    · rw [show x + n - y = x - y + n by omega, Nat.add_mod_right, Nat.mod_eq_of_lt (by omega)] at h1; omega
  · rintro rfl
    rw [show x + n - x = n by omega, Nat.mod_self]
theorem plus_txt {id : Int} {a b : Tp} (ha : pointB id a = true) (hb : pointB id b = true) : plusT (cvPT id) a b = txt2 (plusP (gV (cvPT id)) (val2 a) (val2 b)) := by
  have FA := point_fit ha
  have FB := point_fit hb
  have hm := (curve_fit FA.cv).mp
  have CS := curve_sums FA.cv
  have hp := CS.prm
  have h4 := CS.m4
  have h0 := mod_pos hm
  obtain ⟨z1, x1, y1⟩ := a
  obtain ⟨z2, x2, y2⟩ := b
  cases z1 with
  | true =>
    unfold plusT
    rw [if_pos rfl]
    exact FB.back.symm
  | false =>
  cases z2 with
  | true =>
    unfold plusT
    rw [if_neg Bool.false_ne_true, if_pos rfl]
    have e : plusP (gV (cvPT id)) (val2 (false, x1, y1)) (val2 (true, x2, y2)) = val2 (false, x1, y1) := rfl
    rw [e]
    exact FA.back.symm
  | false =>
  have pa := ha
  have pb := hb
  simp only [pointB, Bool.and_eq_true, Bool.false_eq_true, if_false] at pa pb
  have rx1 := pa.2.1
  have ry1 := pa.2.2.1
  have rx2 := pb.2.1
  have ry2 := pb.2.2.1
  have lx1 := (restB_lt rx1).1
  have ly1 := (restB_lt ry1).1
  have lx2 := (restB_lt rx2).1
  have ly2 := (restB_lt ry2).1
  have oa : (gV y1, 0) ≠ (0, 0) := CS.base.odd FA.on
  have ny1 : gV y1 ≠ 0 := fun e => oa (by rw [e])
  have en : negR y2 (cvPT id) = gS ((0 + gV (cvPT id) - gV y2) % gV (cvPT id)) := by
    have e := negR_gS hm ly2
    rwa [gS_gV (restB_lt ry2).2.1] at e
  have ob : (gV y2, 0) ≠ (0, 0) := CS.base.odd FB.on
  have ny2 : gV y2 ≠ 0 := fun e => ob (by rw [e])
  rw [Nat.zero_add, Nat.mod_eq_of_lt (by omega)] at en
  unfold plusT
  rw [if_neg Bool.false_ne_true, if_neg Bool.false_ne_true]
  have ev : plusP (gV (cvPT id)) (val2 (false, x1, y1)) (val2 (false, x2, y2)) = if subP (gV (cvPT id)) (gV x2, 0) (gV x1, 0) = (0, 0) then (if ((gV y1, 0) : Pn) = (0, 0) ∨ subP (gV (cvPT id)) (gV y2, 0) (gV y1, 0) ≠ (0, 0) then none else some (lineP (gV (cvPT id)) ((gV x1, 0), (gV y1, 0)) ((gV x2, 0), (gV y2, 0)) (tripleP (gV (cvPT id)) (gV x1, 0)) (addP (gV (cvPT id)) (gV y1, 0) (gV y1, 0)))) else some (lineP (gV (cvPT id)) ((gV x1, 0), (gV y1, 0)) ((gV x2, 0), (gV y2, 0)) (subP (gV (cvPT id)) (gV y2, 0) (gV y1, 0)) (subP (gV (cvPT id)) (gV x2, 0) (gV x1, 0))) := rfl
  rw [ev]
  simp only
  by_cases ex : x1 = x2
  · subst ex
    rw [if_pos ((sub_same lx1 lx1).2 rfl)]
    by_cases ey : y1 = negR y2 (cvPT id)
    · rw [if_pos ⟨rfl, ey⟩]
      have k : gV y1 = gV (cvPT id) - gV y2 := by
        have := congrArg gV ey
        rwa [en, gV_gS] at this
      rw [if_pos (.inr (fun e => by
        have := (sub_same ly2 ly1).1 e
        omega))]
      rfl
    · rw [if_neg (fun e => ey e.2)]
      have sq : mulP (gV (cvPT id)) (gV y1, 0) (gV y1, 0) = mulP (gV (cvPT id)) (gV y2, 0) (gV y2, 0) := (of_decide_eq_true pa.2.2.2).trans (of_decide_eq_true pb.2.2.2).symm
      rw [mul_bare h0, mul_bare h0] at sq
      have e2 : gV y1 = gV y2 := by
        rcases hp.two_roots ly1 ly2 (congrArg Prod.fst sq) with e | e | e
        · exact e
        · exfalso
          apply ey
          rw [en, ← gS_gV (restB_lt ry1).2.1, show gV y1 = gV (cvPT id) - gV y2 by omega]
        · exact absurd e.1 ny1
      have e3 : y1 = y2 := by rw [← gS_gV (restB_lt ry1).2.1, ← gS_gV (restB_lt ry2).2.1, e2]
      subst e3
      rw [if_neg (by
        rintro (e | e)
        · exact oa e
        · exact e ((sub_same ly1 ly1).2 rfl))]
      have hs : Nm (cvPT id) (slopeT (cvPT id) x1 y1 x1 y1) (mulP (gV (cvPT id)) (tripleP (gV (cvPT id)) (gV x1, 0)) (inv7 (addP (gV (cvPT id)) (gV y1, 0) (gV y1, 0)) (gV (cvPT id)))) := by
        unfold slopeT
        rw [if_pos ⟨rfl, rfl⟩]
        have n1 := nm_of rx1
        have n2 := nm_of ry1
        have sqx := n1.mul hm n1
        refine (((sqx.add hm sqx).add hm sqx).mul hm ((n2.add hm n2).inv hm hp h4 ?_))
        intro e
        have e' : (gV y1 + gV y1) % gV (cvPT id) = 0 := congrArg Prod.fst e
        rcases Nat.lt_or_ge (gV y1 + gV y1) (gV (cvPT id)) with k | k
        · rw [Nat.mod_eq_of_lt k] at e'; omega
        · rw [show gV y1 + gV y1 = (gV y1 + gV y1 - gV (cvPT id)) + gV (cvPT id) by omega, Nat.add_mod_right, Nat.mod_eq_of_lt (by omega)] at e'; omega
      exact line_txt (A := ((gV x1, 0), (gV y1, 0))) (B := ((gV x1, 0), (gV y1, 0))) hm (nm_of rx1) (nm_of ry1) (nm_of rx1) hs
  · have ne : gV x1 ≠ gV x2 := fun e => ex (by rw [← gS_gV (restB_lt rx1).2.1, ← gS_gV (restB_lt rx2).2.1, e])
    rw [if_neg (fun e => ex e.1), if_neg (fun e => ne ((sub_same lx2 lx1).1 e).symm)]
    have hs : Nm (cvPT id) (slopeT (cvPT id) x1 y1 x2 y2) (mulP (gV (cvPT id)) (subP (gV (cvPT id)) (gV y2, 0) (gV y1, 0)) (inv7 (subP (gV (cvPT id)) (gV x2, 0) (gV x1, 0)) (gV (cvPT id)))) := by
      unfold slopeT
      rw [if_neg (fun e => ex e.1)]
      exact ((nm_of ry2).sub hm (nm_of ry1)).mul hm (((nm_of rx2).sub hm (nm_of rx1)).inv hm hp h4 (fun e => ne ((sub_same lx2 lx1).1 e).symm))
    exact line_txt (A := ((gV x1, 0), (gV y1, 0))) (B := ((gV x2, 0), (gV y2, 0))) hm (nm_of rx1) (nm_of ry1) (nm_of rx2) hs
end Go.Proofs.YtkmmlfocidfghaaGreat
/-
  impl's coordinates: rests with their prime, called through an interface.
-/
namespace Go.Proofs.YtkmmlfocidfghaaGreat
open Go.RowKit
section
variable {P : Program} {ops : Array Oper} {Q : Exit → Act → World → Prop} {S : World → Prop} {K : Act → World → Prop} {i : Nat} {r : List (Bool × Nat)} {a : Act} {w : World}
def invokeOf : Op → Option (Operand × String × Array Operand)
  | .call ⟨.invoke x n, xs, _⟩ => some (x, n, xs)
  | _ => none
theorem invokeOf_spec {o : Op} {x : Operand} {n : String} {xs : Array Operand} (h : invokeOf o = some (x, n, xs)) : ∃ ts, o = .call ⟨.invoke x n, xs, ts⟩ := by
  unfold invokeOf at h
  split at h
  · simp only [Option.some.injEq, Prod.mk.injEq] at h
    obtain ⟨rfl, rfl, rfl⟩ := h
    exact ⟨_, rfl⟩
  · cases h
/-- A method called through an interface, by its contract. -/
theorem sq_ci (d : Option Tmp) {f : FuncId} {rv : Value} {n : String} {xs vs : Array Value} {R : Ending → World → Prop} (he : ∀ w, (callMethod rv n xs).run P w = .ok (.enter f vs) w) (C : Calls P f vs w R)
    (h : ((oAt ops i).dst, Nat.blt i ops.size, Region.wanted (oAt ops i) (yielded ops a.tmps), (invokeOf (oAt ops i).op).map (fun p => (a.eval p.1, p.2.1, p.2.2.map a.eval))) = (d, true, true, some (rv, n, xs)))
    (k : ∀ e w', R e w' → ∃ v, e = .returned v ∧ S w' ∧ seqH P ops Q S K r (a.put d v) w') : seqH P ops Q S K ((false, i) :: r) a w := by
  simp only [Prod.mk.injEq] at h
  obtain ⟨hd, hi, hw, hl⟩ := h
  cases hq : invokeOf (oAt ops i).op with
  | none => rw [hq] at hl; cases hl
  | some q =>
    obtain ⟨x, n', ys⟩ := q
    rw [hq] at hl
    simp only [Option.map_some, Option.some.injEq, Prod.mk.injEq] at hl
    obtain ⟨h1, rfl, h3⟩ := hl
    obtain ⟨ts, ho⟩ := invokeOf_spec hq
    refine sq_call d f vs hd hi hw (fun w' => ?_) (C.mono k)
    unfold execOp
    rw [ho]
    simp only [resolve, invoke]
    have e1 : (#[a.eval x] ++ ys.map a.eval)[0]? = some rv := by rw [h1, Array.getElem?_append_left (by simp)]; rfl
    have e2 : (#[a.eval x] ++ ys.map a.eval).extract 1 (#[a.eval x] ++ ys.map a.eval).size = xs := by
      rw [h3]
      apply Array.ext'
      simp
    simp only [Sem.run_bind, Sem.run_pure, Result.andThen_ok]
    rw [e1, e2]
    exact he w'
theorem g_ci (d : Option Tmp) {f : FuncId} {rv : Value} {n : String} {xs vs : Array Value} {R : Ending → World → Prop} (he : ∀ w, (callMethod rv n xs).run P w = .ok (.enter f vs) w) (C : Calls P f vs w R)
    (h : ((oAt ops i).dst, Nat.blt i ops.size, Region.wanted (oAt ops i) (yielded ops a.tmps), (invokeOf (oAt ops i).op).map (fun p => (a.eval p.1, p.2.1, p.2.2.map a.eval))) = (d, true, true, some (rv, n, xs)))
    (k : ∀ e w', R e w' → ∃ v, e = .returned v ∧ S w' ∧ SQ P ops Q S K r (a.put d v) w') : SQ P ops Q S K ((false, i) :: r) a w :=
  ⟨sq_ci d he C h fun e w' hR => by
    obtain ⟨v, h1, h2, h3⟩ := k e w' hR
    exact ⟨v, h1, h2, h3.out⟩⟩
end
/-! Which method is meant. -/
theorem meets_times (v x : Value) (w : World) : (callMethod (.iface 62 v) "loop.example/g00970/impl.times" #[x]).run Tryz.prog w = .ok (.enter 185 #[v, x]) w := by kernel_rfl
theorem meets_plus (v x : Value) (w : World) : (callMethod (.iface 62 v) "loop.example/g00970/impl.plus" #[x]).run Tryz.prog w = .ok (.enter 184 #[v, x]) w := by kernel_rfl
theorem meets_less (v x : Value) (w : World) : (callMethod (.iface 62 v) "loop.example/g00970/impl.less" #[x]).run Tryz.prog w = .ok (.enter 182 #[v, x]) w := by kernel_rfl
theorem meets_negative (v : Value) (w : World) : (callMethod (.iface 62 v) "loop.example/g00970/impl.negative" #[]).run Tryz.prog w = .ok (.enter 183 #[v]) w := by kernel_rfl
theorem meets_inverse (v : Value) (w : World) : (callMethod (.iface 62 v) "loop.example/g00970/impl.inverse" #[]).run Tryz.prog w = .ok (.enter 181 #[v]) w := by kernel_rfl
/-! Compared part by part. -/
theorem bl_iff {s t : ByteArray} : s.toList = t.toList ↔ s = t := by
  refine ⟨fun h => ?_, fun h => by rw [h]⟩
  rw [ByteArray.toList_eq, ByteArray.toList_eq] at h
  cases s; cases t
  exact congrArg ByteArray.mk (Array.toList_inj.1 h)
set_option maxRecDepth 8000 in
theorem yields_eqR {ops : Array Oper} {S : World → Prop} {o : Oper} {a : Act} (hw : Region.wanted o (yielded ops a.tmps) = true) (x y : Operand) (ho : o.op = .binOp .eql 62 x y 62) (s t : Pt) (b : Bool) (hb : decide (s = t) = b)
    (hx : a.eval x = .agg (aggT s)) (hy : a.eval y = .agg (aggT t)) : YieldsIf Tryz.prog ops S o (.bool b) a := by
  refine .inl ⟨hw, fun w _ => ?_⟩
  unfold aggT at hx hy
  unfold execOp
  simp only [ho, hx, hy]
  go_simp
  subst hb
  by_cases h1 : s.1 = t.1
  · by_cases h2 : s.2 = t.2
    · rw [if_pos (bl_iff.2 h1), if_pos (bl_iff.2 h2), decide_eq_true (Prod.ext h1 h2)]
    · rw [if_pos (bl_iff.2 h1), if_neg (fun e => h2 (bl_iff.1 e)), decide_eq_false (fun e => h2 (congrArg Prod.snd e))]
  · rw [if_neg (fun e => h1 (bl_iff.1 e)), decide_eq_false (fun e => h1 (congrArg Prod.fst e))]
/-! Blocks of a call: what is loaded of them. -/
theorem ld_s {L : List (Nat × Array Value × TypeId)} {g k : Nat} {C : Array Value} {t : TypeId} {s : ByteArray} (hm : (g, C, t) ∈ L) (h : C[k]? = some (.string s)) : ∀ w', Held w' L → (Instr.loadAt 9 (.pointer (some ⟨g, k, none⟩))).run Tryz.prog w' = .ok (.string s) w' :=
  fun w' hw => str_load ((cell_of_row w' g k _ _ _ (hw _ hm)).trans h)
theorem Tryz.infoRC : (Tryz.prog.info? 62).map (·.size) = some 2 := by kernel_rfl
theorem Tryz.partsRC : (structParts Tryz.prog 62).map (fun q => (q.1.cells.toList, q.2)) = some ([.string ⟨#[]⟩, .string ⟨#[]⟩], [(0, 1), (1, 1)]) := by kernel_rfl
theorem built_rc (a b : ByteArray) : Tryz.prog.built 62 [(0, .string a), (1, .string b)] = some (aggT (a, b)) := by
  cases hq : structParts Tryz.prog 62 with
  | none => have e := Tryz.partsRC; rw [hq] at e; cases e
  | some q =>
    obtain ⟨z, pl⟩ := q
    have e := Tryz.partsRC
    rw [hq] at e
    simp only [Option.map_some, Option.some.injEq, Prod.mk.injEq] at e
    obtain ⟨e1, rfl⟩ := e
    rw [built_parts hq]
    have ez : z.cells = #[] ++ #[.string ⟨#[]⟩] ++ #[.string ⟨#[]⟩] := Array.ext' (by rw [e1]; rfl)
    rw [ez, fill_step (R := #[.string a]) (off := 0) (n := 1) rfl rfl rfl rfl rfl]
    have e2 : (#[] ++ #[.string a] ++ #[.string ⟨#[]⟩] : Array Value) = #[.string a] ++ #[.string ⟨#[]⟩] ++ #[] := by simp
    rw [e2, fill_step (R := #[.string b]) (off := 1) (n := 1) rfl rfl rfl rfl rfl]
    simp [Instr.fill, aggT]
/-! The methods. -/
set_option maxRecDepth 8000 in
set_option maxHeartbeats 4000000 in
theorem rc_plus (x p y q : ByteArray) (w : World) : Calls Tryz.prog 184 #[.agg (aggT (x, p)), .agg (aggT (y, q))] w fun e w' => e = .returned (.agg (aggT (addR x y p, p))) ∧ Below w.heap.size w w' := by
  have HO := Lib.hid (addRest_i x y p)
  have HG0 := Lib.hid (begun3 (Held.none w) (aggT (x, p)) (aggT (y, q)) #[.string ⟨#[]⟩, .string ⟨#[]⟩] 62 62 62).drew
  have HS0 := Lib.hid HG0.out.h
  have hge : w.heap.size ≤ w.heap.size + 1 + 1 := by omega
  generalize addR x y p = r at *
  go_enter Tryz.func184, Tryz.ntmps184
  go_wp2_with fail
  generalize ((w.alloc _).alloc _).alloc _ = w0 at *
  refine sq_go (S := fun w' => Held w' [(w.heap.size + 1, aggT (y, q), 62), (w.heap.size, aggT (x, p), 62)]) [(true, 0), (true, 1), (true, 2), (true, 3), (true, 4), (true, 5), (true, 7), (true, 8), (false, 6), (true, 9), (false, 10)] (by kernel_rfl) (fun d _ _ _ _ h => by cases d <;> exact h) HS0.out ?_
  refine sq_ps [(0, .pointer (some ⟨w.heap.size, 0, none⟩))] (by kernel_rfl) ?_
  refine sq_ld (some 6) (ld_s (.tail _ (.head _)) (k := 0) rfl) (by kernel_rfl) ?_
  refine sq_ps [(2, .pointer (some ⟨(w.heap.size + 1), 0, none⟩))] (by kernel_rfl) ?_
  refine sq_ld (some 8) (ld_s (.head _) (k := 0) rfl) (by kernel_rfl) ?_
  refine sq_ps [(4, .pointer (some ⟨w.heap.size, 1, none⟩))] (by kernel_rfl) ?_
  refine sq_ld (some 10) (ld_s (.tail _ (.head _)) (k := 1) rfl) (by kernel_rfl) ?_
  refine sq_ps [(7, .pointer (some ⟨w.heap.size, 1, none⟩))] (by kernel_rfl) ?_
  refine sq_ld (some 13) (ld_s (.tail _ (.head _)) (k := 1) rfl) (by kernel_rfl) ?_
  refine sq_c (some 11) Tryz.func65 (HO.out _) (by kernel_rfl) ?_
  rintro e v1 ⟨rfl, bw1⟩
  have HG1 := Lib.hid (HG0.out.on bw1)
  have HS1 := Lib.hid HG1.out.h
  refine ⟨_, rfl, HS1.out, ?_⟩
  refine sq_pure (some 14) (.agg (aggT (r, p))) (by kernel_rfl) (by kernel_rfl) (held_build 62 #[(0, (.tmp 11)), (1, (.tmp 13))] (by kernel_rfl) _ (by kernel_rfl) _ (built_rc r p)) ?_
  have HE := Lib.hid (HG1.out.put hge (aggT (r, p)))
  refine sq_st 62 (w.heap.size + 1 + 1) (aggT (r, p)) HG1.out.out Tryz.infoRC rfl (by kernel_rfl) (HS1.out.setRow HG1.out.ne) (by kernel_rfl) ?_
  refine sq_done ?_
  refine (by assumption : ∀ (a : Act) (w_1 : World), Code.wp _ Code.ret _ a w_1 → _) _ _ ?_
  refine wp_ret ?_
  exact bodyPost_ret (results_cell_row Tryz.results184 _ _ (w.heap.size + 1 + 1) _ _ _ _ (by kernel_rfl) HE.out.out Tryz.underlying62 rfl Tryz.infoRC) (by kernel_rfl) ⟨rfl, HE.out.b⟩
set_option maxRecDepth 8000 in
set_option maxHeartbeats 4000000 in
theorem rc_less (x p y q : ByteArray) (w : World) : Calls Tryz.prog 182 #[.agg (aggT (x, p)), .agg (aggT (y, q))] w fun e w' => e = .returned (.agg (aggT (subR x y p, p))) ∧ Below w.heap.size w w' := by
  have HO := Lib.hid (subRest_i x y p)
  have HG0 := Lib.hid (begun3 (Held.none w) (aggT (x, p)) (aggT (y, q)) #[.string ⟨#[]⟩, .string ⟨#[]⟩] 62 62 62).drew
  have HS0 := Lib.hid HG0.out.h
  have hge : w.heap.size ≤ w.heap.size + 1 + 1 := by omega
  generalize subR x y p = r at *
  go_enter Tryz.func182, Tryz.ntmps182
  go_wp2_with fail
  generalize ((w.alloc _).alloc _).alloc _ = w0 at *
  refine sq_go (S := fun w' => Held w' [(w.heap.size + 1, aggT (y, q), 62), (w.heap.size, aggT (x, p), 62)]) [(true, 0), (true, 1), (true, 2), (true, 3), (true, 4), (true, 5), (true, 7), (true, 8), (false, 6), (true, 9), (false, 10)] (by kernel_rfl) (fun d _ _ _ _ h => by cases d <;> exact h) HS0.out ?_
  refine sq_ps [(0, .pointer (some ⟨w.heap.size, 0, none⟩))] (by kernel_rfl) ?_
  refine sq_ld (some 6) (ld_s (.tail _ (.head _)) (k := 0) rfl) (by kernel_rfl) ?_
  refine sq_ps [(2, .pointer (some ⟨(w.heap.size + 1), 0, none⟩))] (by kernel_rfl) ?_
  refine sq_ld (some 8) (ld_s (.head _) (k := 0) rfl) (by kernel_rfl) ?_
  refine sq_ps [(4, .pointer (some ⟨w.heap.size, 1, none⟩))] (by kernel_rfl) ?_
  refine sq_ld (some 10) (ld_s (.tail _ (.head _)) (k := 1) rfl) (by kernel_rfl) ?_
  refine sq_ps [(7, .pointer (some ⟨w.heap.size, 1, none⟩))] (by kernel_rfl) ?_
  refine sq_ld (some 13) (ld_s (.tail _ (.head _)) (k := 1) rfl) (by kernel_rfl) ?_
  refine sq_c (some 11) Tryz.func66 (HO.out _) (by kernel_rfl) ?_
  rintro e v1 ⟨rfl, bw1⟩
  have HG1 := Lib.hid (HG0.out.on bw1)
  have HS1 := Lib.hid HG1.out.h
  refine ⟨_, rfl, HS1.out, ?_⟩
  refine sq_pure (some 14) (.agg (aggT (r, p))) (by kernel_rfl) (by kernel_rfl) (held_build 62 #[(0, (.tmp 11)), (1, (.tmp 13))] (by kernel_rfl) _ (by kernel_rfl) _ (built_rc r p)) ?_
  have HE := Lib.hid (HG1.out.put hge (aggT (r, p)))
  refine sq_st 62 (w.heap.size + 1 + 1) (aggT (r, p)) HG1.out.out Tryz.infoRC rfl (by kernel_rfl) (HS1.out.setRow HG1.out.ne) (by kernel_rfl) ?_
  refine sq_done ?_
  refine (by assumption : ∀ (a : Act) (w_1 : World), Code.wp _ Code.ret _ a w_1 → _) _ _ ?_
  refine wp_ret ?_
  exact bodyPost_ret (results_cell_row Tryz.results182 _ _ (w.heap.size + 1 + 1) _ _ _ _ (by kernel_rfl) HE.out.out Tryz.underlying62 rfl Tryz.infoRC) (by kernel_rfl) ⟨rfl, HE.out.b⟩
set_option maxRecDepth 8000 in
set_option maxHeartbeats 4000000 in
theorem rc_times (x p y q : ByteArray) (w : World) : Calls Tryz.prog 185 #[.agg (aggT (x, p)), .agg (aggT (y, q))] w fun e w' => e = .returned (.agg (aggT (mulR x y p, p))) ∧ Below w.heap.size w w' := by
  have HO := Lib.hid (mulRest_i x y p)
  have HG0 := Lib.hid (begun3 (Held.none w) (aggT (x, p)) (aggT (y, q)) #[.string ⟨#[]⟩, .string ⟨#[]⟩] 62 62 62).drew
  have HS0 := Lib.hid HG0.out.h
  have hge : w.heap.size ≤ w.heap.size + 1 + 1 := by omega
  generalize mulR x y p = r at *
  go_enter Tryz.func185, Tryz.ntmps185
  go_wp2_with fail
  generalize ((w.alloc _).alloc _).alloc _ = w0 at *
  refine sq_go (S := fun w' => Held w' [(w.heap.size + 1, aggT (y, q), 62), (w.heap.size, aggT (x, p), 62)]) [(true, 0), (true, 1), (true, 2), (true, 3), (true, 4), (true, 5), (true, 7), (true, 8), (false, 6), (true, 9), (false, 10)] (by kernel_rfl) (fun d _ _ _ _ h => by cases d <;> exact h) HS0.out ?_
  refine sq_ps [(0, .pointer (some ⟨w.heap.size, 0, none⟩))] (by kernel_rfl) ?_
  refine sq_ld (some 6) (ld_s (.tail _ (.head _)) (k := 0) rfl) (by kernel_rfl) ?_
  refine sq_ps [(2, .pointer (some ⟨(w.heap.size + 1), 0, none⟩))] (by kernel_rfl) ?_
  refine sq_ld (some 8) (ld_s (.head _) (k := 0) rfl) (by kernel_rfl) ?_
  refine sq_ps [(4, .pointer (some ⟨w.heap.size, 1, none⟩))] (by kernel_rfl) ?_
  refine sq_ld (some 10) (ld_s (.tail _ (.head _)) (k := 1) rfl) (by kernel_rfl) ?_
  refine sq_ps [(7, .pointer (some ⟨w.heap.size, 1, none⟩))] (by kernel_rfl) ?_
  refine sq_ld (some 13) (ld_s (.tail _ (.head _)) (k := 1) rfl) (by kernel_rfl) ?_
  refine sq_c (some 11) Tryz.func36 (HO.out _) (by kernel_rfl) ?_
  rintro e v1 ⟨rfl, bw1⟩
  have HG1 := Lib.hid (HG0.out.on bw1)
  have HS1 := Lib.hid HG1.out.h
  refine ⟨_, rfl, HS1.out, ?_⟩
  refine sq_pure (some 14) (.agg (aggT (r, p))) (by kernel_rfl) (by kernel_rfl) (held_build 62 #[(0, (.tmp 11)), (1, (.tmp 13))] (by kernel_rfl) _ (by kernel_rfl) _ (built_rc r p)) ?_
  have HE := Lib.hid (HG1.out.put hge (aggT (r, p)))
  refine sq_st 62 (w.heap.size + 1 + 1) (aggT (r, p)) HG1.out.out Tryz.infoRC rfl (by kernel_rfl) (HS1.out.setRow HG1.out.ne) (by kernel_rfl) ?_
  refine sq_done ?_
  refine (by assumption : ∀ (a : Act) (w_1 : World), Code.wp _ Code.ret _ a w_1 → _) _ _ ?_
  refine wp_ret ?_
  exact bodyPost_ret (results_cell_row Tryz.results185 _ _ (w.heap.size + 1 + 1) _ _ _ _ (by kernel_rfl) HE.out.out Tryz.underlying62 rfl Tryz.infoRC) (by kernel_rfl) ⟨rfl, HE.out.b⟩
set_option maxRecDepth 8000 in
set_option maxHeartbeats 4000000 in
theorem rc_negative (x p : ByteArray) (w : World) : Calls Tryz.prog 183 #[.agg (aggT (x, p))] w fun e w' => e = .returned (.agg (aggT (negR x p, p))) ∧ Below w.heap.size w w' := by
  have HO := Lib.hid (negRest_i x p)
  have HG0 := Lib.hid (begun2 (Held.none w) (aggT (x, p)) #[.string ⟨#[]⟩, .string ⟨#[]⟩] 62 62).drew
  have HS0 := Lib.hid HG0.out.h
  have hge : w.heap.size ≤ w.heap.size + 1 := by omega
  generalize negR x p = r at *
  go_enter Tryz.func183, Tryz.ntmps183
  go_wp2_with fail
  generalize (w.alloc _).alloc _ = w0 at *
  refine sq_go (S := fun w' => Held w' [(w.heap.size, aggT (x, p), 62)]) [(true, 0), (true, 1), (true, 2), (true, 3), (true, 5), (true, 6), (false, 4), (true, 7), (false, 8)] (by kernel_rfl) (fun d _ _ _ _ h => by cases d <;> exact h) HS0.out ?_
  refine sq_ps [(0, .pointer (some ⟨w.heap.size, 0, none⟩))] (by kernel_rfl) ?_
  refine sq_ld (some 4) (ld_s (.head _) (k := 0) rfl) (by kernel_rfl) ?_
  refine sq_ps [(2, .pointer (some ⟨w.heap.size, 1, none⟩))] (by kernel_rfl) ?_
  refine sq_ld (some 6) (ld_s (.head _) (k := 1) rfl) (by kernel_rfl) ?_
  refine sq_ps [(5, .pointer (some ⟨w.heap.size, 1, none⟩))] (by kernel_rfl) ?_
  refine sq_ld (some 9) (ld_s (.head _) (k := 1) rfl) (by kernel_rfl) ?_
  refine sq_c (some 7) Tryz.func38 (HO.out _) (by kernel_rfl) ?_
  rintro e v1 ⟨rfl, bw1⟩
  have HG1 := Lib.hid (HG0.out.on bw1)
  have HS1 := Lib.hid HG1.out.h
  refine ⟨_, rfl, HS1.out, ?_⟩
  refine sq_pure (some 10) (.agg (aggT (r, p))) (by kernel_rfl) (by kernel_rfl) (held_build 62 #[(0, (.tmp 7)), (1, (.tmp 9))] (by kernel_rfl) _ (by kernel_rfl) _ (built_rc r p)) ?_
  have HE := Lib.hid (HG1.out.put hge (aggT (r, p)))
  refine sq_st 62 (w.heap.size + 1) (aggT (r, p)) HG1.out.out Tryz.infoRC rfl (by kernel_rfl) (HS1.out.setRow HG1.out.ne) (by kernel_rfl) ?_
  refine sq_done ?_
  refine (by assumption : ∀ (a : Act) (w_1 : World), Code.wp _ Code.ret _ a w_1 → _) _ _ ?_
  refine wp_ret ?_
  exact bodyPost_ret (results_cell_row Tryz.results183 _ _ (w.heap.size + 1) _ _ _ _ (by kernel_rfl) HE.out.out Tryz.underlying62 rfl Tryz.infoRC) (by kernel_rfl) ⟨rfl, HE.out.b⟩
set_option maxRecDepth 8000 in
set_option maxHeartbeats 4000000 in
theorem rc_inverse (x p : ByteArray) (w : World) : Calls Tryz.prog 181 #[.agg (aggT (x, p))] w fun e w' => e = .returned (.agg (aggT (invR x p, p))) ∧ Below w.heap.size w w' := by
  have HO := Lib.hid (inverseRest_i x p)
  have HG0 := Lib.hid (begun2 (Held.none w) (aggT (x, p)) #[.string ⟨#[]⟩, .string ⟨#[]⟩] 62 62)
  go_enter Tryz.func181, Tryz.ntmps181
  go_upto_region 1 with (fail)
  generalize (w.alloc _).alloc _ = w0 at *
  have d0 := (cell_of_row w0 w.heap.size 0 _ _ _ (HG0.out.h _ (.head _))).trans (show _ = some (Value.string x) from rfl)
  have d1 := (cell_of_row w0 w.heap.size 1 _ _ _ (HG0.out.h _ (.head _))).trans (show _ = some (Value.string p) from rfl)
  go_wp2_with fail
  refine (HO.out _).mono ?_
  rintro e w1 ⟨rfl, b1⟩
  have HG1 := Lib.hid (HG0.out.on b1)
  have HE := Lib.hid (HG1.out.put (Nat.le_succ _) (aggT (invR x p, p)))
  clear d0 d1 b1 HG0 HO
  have d1 := (cell_of_row w1 w.heap.size 1 _ _ _ (HG1.out.h _ (.head _))).trans (show _ = some (Value.string p) from rfl)
  go_wp2_with (first | refine store_v rfl 62 (.tmp 2) (.tmp 16) rfl (w.heap.size + 1) _ (aggT (invR x p, p)) rfl rfl HG1.out.out Tryz.infoRC rfl (by kernel_rfl) ?_)
  exact bodyPost_ret (results_cell_row Tryz.results181 _ _ (w.heap.size + 1) _ _ _ _ rfl HE.out.out Tryz.underlying62 rfl Tryz.infoRC) rfl ⟨rfl, HE.out.b⟩
end Go.Proofs.YtkmmlfocidfghaaGreat
/-
  impl's points with their coordinates: the slope, the sum.
-/
namespace Go.Proofs.YtkmmlfocidfghaaGreat
open Go.RowKit
section
variable {P : Program} {ops : Array Oper} {S : World → Prop} {R : Act → World → Prop} {a : Act} {w : World}
theorem m_s {M g : Nat} (f : Nat) (sched : List (Bool × Nat)) (M' : Nat) (h4 : (Region.noSelect ops, schedI (infoS ops) sched M, maskAll sched M, g == f + sched.length) = (true, true, M', true)) (hS : S w) (h : seqH P ops (fun e a' w' => e = .normal ∧ R a' w') S (wpM P .any ops (fun e a' w' => e = .normal ∧ R a' w') S f M') sched a w) : wpM P .any ops (fun e a' w' => e = .normal ∧ R a' w') S g M a w := by
  simp only [Prod.mk.injEq] at h4
  exact m_seq (f := f) (infoS ops) sched M' (tells_infoS ops _) h4.1 (fun _ _ _ _ _ h => by cases h.1) h4.2.1 h4.2.2.1 h4.2.2.2 hS h
theorem m_w {Q : Exit → Act → World → Prop} {M g : Nat} (f : Nat) (rs : List Nat) (h3 : (readyI M 0 (infoS ops), rs.isEmpty, g == f + 1) = (rs, false, true)) (h : ∀ i ∈ rs, seqH P ops Q S (wpM P .any ops Q S f (M ||| (1 <<< i))) [(false, i)] a w) : wpM P .any ops Q S g M a w := by
  simp only [Prod.mk.injEq] at h3
  exact m_ways (f := f) (infoS ops) rs (tells_infoS ops _) h3.1 h3.2.1 h3.2.2 h
theorem m_fin {Q : Exit → Act → World → Prop} {M f : Nat} (hr : readyI M 0 (infoS ops) = []) (h : Q .normal a w) : wpM P .any ops Q S f M a w := m_done (infoS ops) (tells_infoS ops _) hr a rfl h
end
/-- A point with its coordinates, as cells. -/
def spC (q : Tp) (p : ByteArray) : Array Value := #[.bool q.1, .string q.2.1, .string p, .string q.2.2, .string p]
set_option maxRecDepth 8000 in
theorem yields_eqS {ops : Array Oper} {S : World → Prop} {o : Oper} {a : Act} (hw : Region.wanted o (yielded ops a.tmps) = true) (x y : Operand) (ho : o.op = .binOp .eql 64 x y 64) (s t : Tp) (p : ByteArray) (b : Bool) (hb : decide (s = t) = b)
    (hx : a.eval x = .agg (spC s p)) (hy : a.eval y = .agg (spC t p)) : YieldsIf Tryz.prog ops S o (.bool b) a := by
  refine .inl ⟨hw, fun w _ => ?_⟩
  unfold spC at hx hy
  unfold execOp
  simp only [ho, hx, hy]
  go_simp
  subst hb
  by_cases h0 : s.1 = t.1
  · by_cases h1 : s.2.1 = t.2.1
    · by_cases h2 : s.2.2 = t.2.2
      · have e : s = t := Prod.ext h0 (Prod.ext h1 h2)
        subst e
        simp
      · have e : s ≠ t := fun e => h2 (by rw [e])
        have k1 : ¬ s.2.2.toList = t.2.2.toList := fun q => h2 (bl_iff.1 q)
        simp [h0, h1, k1, e]
    · have e : s ≠ t := fun e => h1 (by rw [e])
      have k1 : ¬ s.2.1.toList = t.2.1.toList := fun q => h1 (bl_iff.1 q)
      simp [h0, k1, e]
  · have e : s ≠ t := fun e => h0 (by rw [e])
    simp [h0, e]
theorem ld_b {L : List (Nat × Array Value × TypeId)} {g k : Nat} {C : Array Value} {t : TypeId} {s : Bool} (hm : (g, C, t) ∈ L) (h : C[k]? = some (.bool s)) : ∀ w', Held w' L → (Instr.loadAt 4 (.pointer (some ⟨g, k, none⟩))).run Tryz.prog w' = .ok (.bool s) w' :=
  fun w' hw => bool_load ((cell_of_row w' g k _ _ _ (hw _ hm)).trans h)
theorem ld_r {L : List (Nat × Array Value × TypeId)} {g k : Nat} {C : Array Value} {t : TypeId} {x p : ByteArray} (hm : (g, C, t) ∈ L) (h0 : C[k]? = some (.string x)) (h1 : C[k + 1]? = some (.string p)) : ∀ w', Held w' L → (Instr.loadAt 62 (.pointer (some ⟨g, k, none⟩))).run Tryz.prog w' = .ok (.agg (aggT (x, p))) w' := by
  intro w' hw
  have hg := hw _ hm
  have e := run_loadAt_mid (P := Tryz.prog) w' g k 62 [.string x, .string p] _ (fun j v hv => by
    rw [cell_of_row w' g (k + j) _ _ _ hg]
    match j with
    | 0 => simpa [h0] using hv
    | 1 => simpa [h1] using hv
    | j + 2 => simp at hv) Tryz.underlying62 rfl Tryz.infoRC
  show (Instr.loadAt 62 (.pointer (some ⟨g, k, none⟩))).run Tryz.prog w' = .ok (.agg #[.string x, .string p]) w'
  simpa using e
theorem Tryz.infoSP : (Tryz.prog.info? 64).map (·.size) = some 5 := by kernel_rfl
theorem ld_sp {L : List (Nat × Array Value × TypeId)} {g : Nat} {C : Array Value} {t : TypeId} (hm : (g, C, t) ∈ L) (hs : Nat.beq C.size 5 = true) : ∀ w', Held w' L → (Instr.loadAt 64 (.pointer (some ⟨g, 0, none⟩))).run Tryz.prog w' = .ok (.agg C) w' :=
  fun w' hw => cells_load (hw _ hm) Tryz.underlying64 rfl (by rw [Nat.eq_of_beq_eq_true hs]; exact Tryz.infoSP)
theorem ld_pt {L : List (Nat × Array Value × TypeId)} {g : Nat} {C : Array Value} {t : TypeId} (hm : (g, C, t) ∈ L) (hs : Nat.beq C.size 3 = true) : ∀ w', Held w' L → (Instr.loadAt 25 (.pointer (some ⟨g, 0, none⟩))).run Tryz.prog w' = .ok (.agg C) w' :=
  fun w' hw => cells_load (hw _ hm) Tryz.underlying25 rfl (by rw [Nat.eq_of_beq_eq_true hs]; exact Tryz.infoPoint)
theorem zero_rc (w : World) : (zeroValue 62).run Tryz.prog w = .ok (.agg (aggT noP)) w := by kernel_rfl
theorem zero_sp (w : World) : (zeroValue 64).run Tryz.prog w = .ok (.agg (spC noT ⟨#[]⟩)) w := by kernel_rfl
theorem Tryz.partsSP : (structParts Tryz.prog 64).map (fun q => (q.1.cells.toList, q.2)) = some ([.bool false, .string ⟨#[]⟩, .string ⟨#[]⟩, .string ⟨#[]⟩, .string ⟨#[]⟩], [(0, 1), (1, 2), (3, 2)]) := by kernel_rfl
theorem built_s3 (z : Bool) (x y p : ByteArray) : Tryz.prog.built 64 [(0, .bool z), (1, .agg (aggT (x, p))), (2, .agg (aggT (y, p)))] = some (spC (z, x, y) p) := by
  cases hq : structParts Tryz.prog 64 with
  | none => have e := Tryz.partsSP; rw [hq] at e; cases e
  | some q =>
    obtain ⟨zz, pl⟩ := q
    have e := Tryz.partsSP
    rw [hq] at e
    simp only [Option.map_some, Option.some.injEq, Prod.mk.injEq] at e
    obtain ⟨e1, rfl⟩ := e
    rw [built_parts hq]
    have ez : zz.cells = #[] ++ #[.bool false] ++ #[.string ⟨#[]⟩, .string ⟨#[]⟩, .string ⟨#[]⟩, .string ⟨#[]⟩] := Array.ext' (by rw [e1]; rfl)
    rw [ez, fill_step (R := #[.bool z]) (off := 0) (n := 1) rfl rfl rfl rfl rfl]
    have e2 : (#[] ++ #[.bool z] ++ #[.string ⟨#[]⟩, .string ⟨#[]⟩, .string ⟨#[]⟩, .string ⟨#[]⟩] : Array Value) = #[.bool z] ++ #[.string ⟨#[]⟩, .string ⟨#[]⟩] ++ #[.string ⟨#[]⟩, .string ⟨#[]⟩] := rfl
    rw [e2, fill_step (R := aggT (x, p)) (off := 1) (n := 2) rfl rfl rfl rfl rfl]
    have e3 : (#[.bool z] ++ aggT (x, p) ++ #[.string ⟨#[]⟩, .string ⟨#[]⟩] : Array Value) = (#[.bool z] ++ aggT (x, p)) ++ #[.string ⟨#[]⟩, .string ⟨#[]⟩] ++ #[] := rfl
    rw [e3, fill_step (R := aggT (y, p)) (off := 3) (n := 2) rfl rfl rfl rfl rfl]
    rfl
theorem built_sp (x y p : ByteArray) : Tryz.prog.built 64 [(1, .agg (aggT (x, p))), (2, .agg (aggT (y, p)))] = some (spC (false, x, y) p) := by
  cases hq : structParts Tryz.prog 64 with
  | none => have e := Tryz.partsSP; rw [hq] at e; cases e
  | some q =>
    obtain ⟨zz, pl⟩ := q
    have e := Tryz.partsSP
    rw [hq] at e
    simp only [Option.map_some, Option.some.injEq, Prod.mk.injEq] at e
    obtain ⟨e1, rfl⟩ := e
    rw [built_parts hq]
    have e2 : zz.cells = #[.bool false] ++ #[.string ⟨#[]⟩, .string ⟨#[]⟩] ++ #[.string ⟨#[]⟩, .string ⟨#[]⟩] := Array.ext' (by rw [e1]; rfl)
    rw [e2, fill_step (R := aggT (x, p)) (off := 1) (n := 2) rfl rfl rfl rfl rfl]
    have e3 : (#[.bool false] ++ aggT (x, p) ++ #[.string ⟨#[]⟩, .string ⟨#[]⟩] : Array Value) = (#[.bool false] ++ aggT (x, p)) ++ #[.string ⟨#[]⟩, .string ⟨#[]⟩] ++ #[] := rfl
    rw [e3, fill_step (R := aggT (y, p)) (off := 3) (n := 2) rfl rfl rfl rfl rfl]
    rfl
theorem built_sz : Tryz.prog.built 64 [(0, .bool true)] = some (spC zeroT ⟨#[]⟩) := by
  cases hq : structParts Tryz.prog 64 with
  | none => have e := Tryz.partsSP; rw [hq] at e; cases e
  | some q =>
    obtain ⟨zz, pl⟩ := q
    have e := Tryz.partsSP
    rw [hq] at e
    simp only [Option.map_some, Option.some.injEq, Prod.mk.injEq] at e
    obtain ⟨e1, rfl⟩ := e
    rw [built_parts hq]
    have ez : zz.cells = #[] ++ #[.bool false] ++ #[.string ⟨#[]⟩, .string ⟨#[]⟩, .string ⟨#[]⟩, .string ⟨#[]⟩] := Array.ext' (by rw [e1]; rfl)
    rw [ez, fill_step (R := #[.bool true]) (off := 0) (n := 1) rfl rfl rfl rfl rfl]
    rfl
theorem then_ret {K : Act → World → Prop} {Q : Exit → Act → World → Prop} {a : Act} {w : World} (h : Q .ret a w) : Exit.then K Q .ret a w := h
theorem block_ret {l : Nat} {Q : Exit → Act → World → Prop} {a : Act} {w : World} (h : Q .ret a w) : Exit.inBlock l Q .ret a w := h
set_option maxRecDepth 8000 in
set_option maxHeartbeats 4000000 in
theorem spot_slope (p x1 y1 x2 y2 : ByteArray) (w : World) : Calls Tryz.prog 62 #[.agg (spC (false, x1, y1) p), .agg (spC (false, x2, y2) p)] w fun e w' => e = .returned (.agg (aggT (slopeT p x1 y1 x2 y2, p))) ∧ Below w.heap.size w w' := by
  unfold slopeT
  by_cases h : x1 = x2 ∧ y1 = y2
  · rw [if_pos h]
    have hd : decide (((false, x1, y1) : Tp) = (false, x2, y2)) = true := by rw [h.1, h.2]; simp
    clear h
    have HG := Lib.hid (begun3 (Held.none w) (spC (false, x1, y1) p) (spC (false, x2, y2) p) #[.string ⟨#[]⟩, .string ⟨#[]⟩] 64 64 62)
    have hge : w.heap.size ≤ w.heap.size + 1 + 1 := by omega
    go_enter Tryz.func62, Tryz.ntmps62
    go_upto_region 1 with (fail)
    generalize ((w.alloc _).alloc _).alloc _ = w0 at *
    have HS := Lib.hid HG.out.h
    refine wp_region_line (S := fun w' => Held w' [(w.heap.size + 1, spC (false, x2, y2) p, 64), (w.heap.size, spC (false, x1, y1) p, 64)]) [(true, 0), (true, 1), (true, 2)] (by kernel_rfl) (by kernel_rfl) HS.out ?_
    refine sq_ld (some 6) (ld_sp (.tail _ (.head _)) (by kernel_rfl)) (by kernel_rfl) ?_
    refine sq_ld (some 7) (ld_sp (.head _) (by kernel_rfl)) (by kernel_rfl) ?_
    refine sq_take (some 8) (.bool true) (by kernel_rfl) (yields_eqS (by kernel_rfl) (.tmp 6) (.tmp 7) (by kernel_rfl) (false, x1, y1) (false, x2, y2) p true hd (by kernel_rfl) (by kernel_rfl)) ?_
    refine sq_fin { tmps := List.toArray (List.append [.agg (spC (false, x1, y1) p), .agg (spC (false, x2, y2) p), .pointer (some ⟨w.heap.size, 0, none⟩), .pointer (some ⟨(w.heap.size + 1), 0, none⟩), .pointer (some ⟨(w.heap.size + 1 + 1), 0, none⟩), undef, .agg (spC (false, x1, y1) p), .agg (spC (false, x2, y2) p), .bool true, undef, undef, undef, undef, undef, undef, undef, undef, undef, undef, undef, undef, undef, undef, undef, undef, undef, undef, undef, undef, undef, undef, undef, undef, undef, undef, undef, undef, undef, undef, undef] ([undef, undef, undef, undef, undef, undef, undef, undef])), defers := [] } (by kernel_rfl) ?_
    refine (by assumption : ∀ (a : Act) (w_1 : World), Code.wp _ _ _ a w_1 → _) _ _ ?_
    go_upto_region 2 with (fail)
    replace HS := Lib.hid HG.out.h
    refine wp_region_line (S := fun w' => Held w' [(w.heap.size + 1, spC (false, x2, y2) p, 64), (w.heap.size, spC (false, x1, y1) p, 64)]) [(true, 0), (true, 1), (true, 2), (true, 3), (true, 4), (false, 5), (false, 6), (false, 7)] (by kernel_rfl) (by kernel_rfl) HS.out ?_
    refine sq_ps [(0, .pointer (some ⟨w.heap.size, 1, none⟩))] (by kernel_rfl) ?_
    refine sq_ld (some 10) (ld_r (.tail _ (.head _)) (k := 1) rfl rfl) (by kernel_rfl) ?_
    refine sq_ps [(2, .iface 62 (.agg (aggT (x1, p)))), (3, .pointer (some ⟨w.heap.size, 1, none⟩))] (by kernel_rfl) ?_
    refine sq_ld (some 13) (ld_r (.tail _ (.head _)) (k := 1) rfl rfl) (by kernel_rfl) ?_
    refine sq_ci (some 14) (meets_times _ _) (rc_times (x1) (p) (x1) (p) _) (by kernel_rfl) ?_
    rintro e v1 ⟨rfl, bw⟩
    replace HG := Lib.hid (HG.out.on bw)
    have HS := Lib.hid (HG.out.h)
    clear bw
    refine ⟨_, rfl, HS.out, ?_⟩
    have GEg2 := Lib.hid HG.out.b.size
    have APg2 := Lib.hid HG.out.h.apart
    replace HG := Lib.hid (HG.out.new (aggT noP) 62)
    have HS := Lib.hid (HG.out.h.tail)
    refine sq_alloc (some 5) 62 (aggT noP) (by kernel_rfl) (by kernel_rfl) (by kernel_rfl) (by kernel_rfl) (zero_rc _) HS.out ?_
    generalize v1.alloc _ = u2 at *
    generalize v1.heap.size = g2 at *
    have HN := Lib.hid (HG.out.h _ (.head _))
    replace HG := Lib.hid (HG.out.putAt GEg2.out APg2.out (aggT (mulR (x1) (x1) p, p)))
    have HS := Lib.hid (HG.out.h.tail)
    refine sq_st 62 g2 (aggT (mulR (x1) (x1) p, p)) HN.out Tryz.infoRC rfl (by kernel_rfl) HS.out (by kernel_rfl) ?_
    clear HN
    generalize World.setRow _ g2 _ = t3 at *
    refine sq_fin { tmps := List.toArray (List.append [.agg (spC (false, x1, y1) p), .agg (spC (false, x2, y2) p), .pointer (some ⟨w.heap.size, 0, none⟩), .pointer (some ⟨(w.heap.size + 1), 0, none⟩), .pointer (some ⟨(w.heap.size + 1 + 1), 0, none⟩), .pointer (some ⟨g2, 0, none⟩), .agg (spC (false, x1, y1) p), .agg (spC (false, x2, y2) p), .bool true, .pointer (some ⟨w.heap.size, 1, none⟩), .agg (aggT (x1, p)), .iface 62 (.agg (aggT (x1, p))), .pointer (some ⟨w.heap.size, 1, none⟩), .agg (aggT (x1, p)), .agg (aggT (mulR (x1) (x1) p, p)), undef, undef, undef, undef, undef, undef, undef, undef, undef, undef, undef, undef, undef, undef, undef, undef, undef, undef, undef, undef, undef, undef, undef, undef, undef] ([undef, undef, undef, undef, undef, undef, undef, undef])), defers := [] } (by kernel_rfl) ?_
    refine (by assumption : ∀ (a : Act) (w_1 : World), Code.wp _ _ _ a w_1 → _) _ _ ?_
    go_upto_region 3 with (fail)
    replace HS := Lib.hid HG.out.h
    replace HG := Lib.hid HG.out.drew
    replace HS := Lib.hid HG.out.h
    refine sq_go (S := fun w' => Held w' [(g2, aggT (mulR (x1) (x1) p, p), 62), (w.heap.size + 1, spC (false, x2, y2) p, 64), (w.heap.size, spC (false, x1, y1) p, 64)]) [(true, 0), (true, 1), (true, 2), (true, 5), (true, 8), (true, 9), (true, 10), (true, 11), (true, 12), (false, 3), (true, 4), (false, 6), (true, 7), (false, 13), (true, 14), (false, 15), (false, 16), (false, 17)] (by kernel_rfl) (fun d _ _ _ _ h => by cases d <;> exact h) HS.out ?_
    refine sq_ld (some 15) (ld_r (.head _) (k := 0) rfl rfl) (by kernel_rfl) ?_
    refine sq_ps [(1, .iface 62 (.agg (aggT ((mulR (x1) (x1) p), (p)))))] (by kernel_rfl) ?_
    refine sq_ld (some 17) (ld_r (.head _) (k := 0) rfl rfl) (by kernel_rfl) ?_
    refine sq_ld (some 20) (ld_r (.head _) (k := 0) rfl rfl) (by kernel_rfl) ?_
    refine sq_ps [(8, .pointer (some ⟨w.heap.size, 3, none⟩))] (by kernel_rfl) ?_
    refine sq_ld (some 24) (ld_r (.tail _ (.tail _ (.head _))) (k := 3) rfl rfl) (by kernel_rfl) ?_
    refine sq_ps [(10, .iface 62 (.agg (aggT (y1, p)))), (11, .pointer (some ⟨w.heap.size, 3, none⟩))] (by kernel_rfl) ?_
    refine sq_ld (some 27) (ld_r (.tail _ (.tail _ (.head _))) (k := 3) rfl rfl) (by kernel_rfl) ?_
    refine sq_ci (some 18) (meets_plus _ _) (rc_plus ((mulR (x1) (x1) p)) ((p)) ((mulR (x1) (x1) p)) ((p)) _) (by kernel_rfl) ?_
    rintro e v4 ⟨rfl, bw⟩
    replace HG := Lib.hid (HG.out.on bw)
    have HS := Lib.hid (HG.out.h)
    clear bw
    refine ⟨_, rfl, HS.out, ?_⟩
    refine sq_ps [(4, .iface 62 (.agg (aggT (addR ((mulR (x1) (x1) p)) ((mulR (x1) (x1) p)) (p), (p)))))] (by kernel_rfl) ?_
    refine sq_ci (some 21) (meets_plus _ _) (rc_plus (addR ((mulR (x1) (x1) p)) ((mulR (x1) (x1) p)) (p)) ((p)) ((mulR (x1) (x1) p)) ((p)) _) (by kernel_rfl) ?_
    rintro e v5 ⟨rfl, bw⟩
    replace HG := Lib.hid (HG.out.on bw)
    have HS := Lib.hid (HG.out.h)
    clear bw
    refine ⟨_, rfl, HS.out, ?_⟩
    refine sq_ps [(7, .iface 62 (.agg (aggT (addR (addR ((mulR (x1) (x1) p)) ((mulR (x1) (x1) p)) (p)) ((mulR (x1) (x1) p)) (p), (p)))))] (by kernel_rfl) ?_
    refine sq_ci (some 28) (meets_plus _ _) (rc_plus (y1) (p) (y1) (p) _) (by kernel_rfl) ?_
    rintro e v6 ⟨rfl, bw⟩
    replace HG := Lib.hid (HG.out.on bw)
    have HS := Lib.hid (HG.out.h)
    clear bw
    refine ⟨_, rfl, HS.out, ?_⟩
    refine sq_ps [(14, .iface 62 (.agg (aggT (addR (y1) (y1) p, p))))] (by kernel_rfl) ?_
    refine sq_ci (some 30) (meets_inverse _) (rc_inverse (addR (y1) (y1) p) (p) _) (by kernel_rfl) ?_
    rintro e v7 ⟨rfl, bw⟩
    replace HG := Lib.hid (HG.out.on bw)
    have HS := Lib.hid (HG.out.h)
    clear bw
    refine ⟨_, rfl, HS.out, ?_⟩
    refine sq_ci (some 31) (meets_times _ _) (rc_times (addR (addR ((mulR (x1) (x1) p)) ((mulR (x1) (x1) p)) (p)) ((mulR (x1) (x1) p)) (p)) ((p)) (invR (addR (y1) (y1) p) p) (p) _) (by kernel_rfl) ?_
    rintro e v8 ⟨rfl, bw⟩
    replace HG := Lib.hid (HG.out.on bw)
    have HS := Lib.hid (HG.out.h)
    clear bw
    refine ⟨_, rfl, HS.out, ?_⟩
    have HE := Lib.hid (HG.out.put hge (aggT (mulR (addR (addR ((mulR (x1) (x1) p)) ((mulR (x1) (x1) p)) (p)) ((mulR (x1) (x1) p)) (p)) (invR (addR (y1) (y1) p) p) (p), (p))))
    refine sq_st 62 (w.heap.size + 1 + 1) (aggT (mulR (addR (addR ((mulR (x1) (x1) p)) ((mulR (x1) (x1) p)) (p)) ((mulR (x1) (x1) p)) (p)) (invR (addR (y1) (y1) p) p) (p), (p))) HG.out.out Tryz.infoRC rfl (by kernel_rfl) ((HG.out.h).setRow (HG.out.ne)) (by kernel_rfl) ?_
    refine sq_done ?_
    refine (by assumption : ∀ (a : Act) (w_1 : World), Code.wp _ Code.ret _ a w_1 → _) _ _ ?_
    refine wp_ret ?_
    try refine block_ret ?_
    try refine then_ret ?_
    exact bodyPost_ret (results_cell_row Tryz.results62 _ _ (w.heap.size + 1 + 1) _ _ _ _ (by kernel_rfl) HE.out.out Tryz.underlying62 rfl Tryz.infoRC) (by kernel_rfl) ⟨rfl, HE.out.b⟩
  · rw [if_neg h]
    have hd : decide (((false, x1, y1) : Tp) = (false, x2, y2)) = false := decide_eq_false (fun e => h (by simpa using e))
    clear h
    have HG := Lib.hid (begun3 (Held.none w) (spC (false, x1, y1) p) (spC (false, x2, y2) p) #[.string ⟨#[]⟩, .string ⟨#[]⟩] 64 64 62)
    have hge : w.heap.size ≤ w.heap.size + 1 + 1 := by omega
    go_enter Tryz.func62, Tryz.ntmps62
    go_upto_region 1 with (fail)
    generalize ((w.alloc _).alloc _).alloc _ = w0 at *
    have HS := Lib.hid HG.out.h
    refine wp_region_line (S := fun w' => Held w' [(w.heap.size + 1, spC (false, x2, y2) p, 64), (w.heap.size, spC (false, x1, y1) p, 64)]) [(true, 0), (true, 1), (true, 2)] (by kernel_rfl) (by kernel_rfl) HS.out ?_
    refine sq_ld (some 6) (ld_sp (.tail _ (.head _)) (by kernel_rfl)) (by kernel_rfl) ?_
    refine sq_ld (some 7) (ld_sp (.head _) (by kernel_rfl)) (by kernel_rfl) ?_
    refine sq_take (some 8) (.bool false) (by kernel_rfl) (yields_eqS (by kernel_rfl) (.tmp 6) (.tmp 7) (by kernel_rfl) (false, x1, y1) (false, x2, y2) p false hd (by kernel_rfl) (by kernel_rfl)) ?_
    refine sq_fin { tmps := List.toArray (List.append [.agg (spC (false, x1, y1) p), .agg (spC (false, x2, y2) p), .pointer (some ⟨w.heap.size, 0, none⟩), .pointer (some ⟨(w.heap.size + 1), 0, none⟩), .pointer (some ⟨(w.heap.size + 1 + 1), 0, none⟩), undef, .agg (spC (false, x1, y1) p), .agg (spC (false, x2, y2) p), .bool false, undef, undef, undef, undef, undef, undef, undef, undef, undef, undef, undef, undef, undef, undef, undef, undef, undef, undef, undef, undef, undef, undef, undef, undef, undef, undef, undef, undef, undef, undef, undef] ([undef, undef, undef, undef, undef, undef, undef, undef])), defers := [] } (by kernel_rfl) ?_
    refine (by assumption : ∀ (a : Act) (w_1 : World), Code.wp _ _ _ a w_1 → _) _ _ ?_
    go_upto_region 4 with (fail)
    replace HS := Lib.hid HG.out.h
    replace HG := Lib.hid HG.out.drew
    replace HS := Lib.hid HG.out.h
    refine sq_go (S := fun w' => Held w' [(w.heap.size + 1, spC (false, x2, y2) p, 64), (w.heap.size, spC (false, x1, y1) p, 64)]) [(true, 0), (true, 1), (true, 2), (true, 3), (true, 4), (true, 7), (true, 8), (true, 9), (true, 10), (true, 11), (false, 5), (true, 6), (false, 12), (true, 13), (false, 14), (false, 15), (false, 16)] (by kernel_rfl) (fun d _ _ _ _ h => by cases d <;> exact h) HS.out ?_
    refine sq_ps [(0, .pointer (some ⟨(w.heap.size + 1), 3, none⟩))] (by kernel_rfl) ?_
    refine sq_ld (some 33) (ld_r (.head _) (k := 3) rfl rfl) (by kernel_rfl) ?_
    refine sq_ps [(2, .iface 62 (.agg (aggT (y2, p)))), (3, .pointer (some ⟨w.heap.size, 3, none⟩))] (by kernel_rfl) ?_
    refine sq_ld (some 36) (ld_r (.tail _ (.head _)) (k := 3) rfl rfl) (by kernel_rfl) ?_
    refine sq_ps [(7, .pointer (some ⟨(w.heap.size + 1), 1, none⟩))] (by kernel_rfl) ?_
    refine sq_ld (some 40) (ld_r (.head _) (k := 1) rfl rfl) (by kernel_rfl) ?_
    refine sq_ps [(9, .iface 62 (.agg (aggT (x2, p)))), (10, .pointer (some ⟨w.heap.size, 1, none⟩))] (by kernel_rfl) ?_
    refine sq_ld (some 43) (ld_r (.tail _ (.head _)) (k := 1) rfl rfl) (by kernel_rfl) ?_
    refine sq_ci (some 37) (meets_less _ _) (rc_less (y2) (p) (y1) (p) _) (by kernel_rfl) ?_
    rintro e v1 ⟨rfl, bw⟩
    replace HG := Lib.hid (HG.out.on bw)
    have HS := Lib.hid (HG.out.h)
    clear bw
    refine ⟨_, rfl, HS.out, ?_⟩
    refine sq_ps [(6, .iface 62 (.agg (aggT (subR (y2) (y1) p, p))))] (by kernel_rfl) ?_
    refine sq_ci (some 44) (meets_less _ _) (rc_less (x2) (p) (x1) (p) _) (by kernel_rfl) ?_
    rintro e v2 ⟨rfl, bw⟩
    replace HG := Lib.hid (HG.out.on bw)
    have HS := Lib.hid (HG.out.h)
    clear bw
    refine ⟨_, rfl, HS.out, ?_⟩
    refine sq_ps [(13, .iface 62 (.agg (aggT (subR (x2) (x1) p, p))))] (by kernel_rfl) ?_
    refine sq_ci (some 46) (meets_inverse _) (rc_inverse (subR (x2) (x1) p) (p) _) (by kernel_rfl) ?_
    rintro e v3 ⟨rfl, bw⟩
    replace HG := Lib.hid (HG.out.on bw)
    have HS := Lib.hid (HG.out.h)
    clear bw
    refine ⟨_, rfl, HS.out, ?_⟩
    refine sq_ci (some 47) (meets_times _ _) (rc_times (subR (y2) (y1) p) (p) (invR (subR (x2) (x1) p) p) (p) _) (by kernel_rfl) ?_
    rintro e v4 ⟨rfl, bw⟩
    replace HG := Lib.hid (HG.out.on bw)
    have HS := Lib.hid (HG.out.h)
    clear bw
    refine ⟨_, rfl, HS.out, ?_⟩
    have HE := Lib.hid (HG.out.put hge (aggT (mulR (subR (y2) (y1) p) (invR (subR (x2) (x1) p) p) p, p)))
    refine sq_st 62 (w.heap.size + 1 + 1) (aggT (mulR (subR (y2) (y1) p) (invR (subR (x2) (x1) p) p) p, p)) HG.out.out Tryz.infoRC rfl (by kernel_rfl) ((HG.out.h).setRow (HG.out.ne)) (by kernel_rfl) ?_
    refine sq_done ?_
    refine (by assumption : ∀ (a : Act) (w_1 : World), Code.wp _ Code.ret _ a w_1 → _) _ _ ?_
    refine wp_ret ?_
    try refine block_ret ?_
    try refine then_ret ?_
    exact bodyPost_ret (results_cell_row Tryz.results62 _ _ (w.heap.size + 1 + 1) _ _ _ _ (by kernel_rfl) HE.out.out Tryz.underlying62 rfl Tryz.infoRC) (by kernel_rfl) ⟨rfl, HE.out.b⟩
def SumPost (t : Tp) (w : World) (e : Ending) (w' : World) : Prop := (∃ q, e = .returned (.agg (spC t q))) ∧ Below w.heap.size w w'
set_option maxRecDepth 8000 in
set_option maxHeartbeats 4000000 in
theorem spot_early (p : ByteArray) (a b : Tp) (h : (a.1 || b.1) = true) (w : World) : Calls Tryz.prog 34 #[.agg (spC a p), .agg (spC b p)] w (SumPost (plusT p a b) w) := by
  have HG := Lib.hid (begun3 (Held.none w) (spC a p) (spC b p) #[.bool false, .string ⟨#[]⟩, .string ⟨#[]⟩, .string ⟨#[]⟩, .string ⟨#[]⟩] 64 64 64)
  have hge : w.heap.size ≤ w.heap.size + 1 + 1 := by omega
  unfold plusT SumPost
  obtain ⟨z1, x1, y1⟩ := a
  obtain ⟨z2, x2, y2⟩ := b
  cases z1 with
  | true =>
    rw [if_pos rfl]
    have HE := Lib.hid (HG.out.put hge (spC (z2, x2, y2) p))
    go_enter Tryz.func34, Tryz.ntmps34
    go_upto_region 1 with (fail)
    generalize ((w.alloc _).alloc _).alloc _ = w0 at *
    have c0 := (cell_of_row w0 w.heap.size 0 _ _ _ (HG.out.h _ (.tail _ (.head _)))).trans (show _ = some (Value.bool true) from rfl)
    go_wp2_with (first | refine load_v rfl 64 (.tmp 3) rfl (w.heap.size + 1) (spC (z2, x2, y2) p) rfl (HG.out.h _ (.head _)) Tryz.underlying64 rfl Tryz.infoSP ?_ | refine store_v rfl 64 (.tmp 4) (.tmp 11) rfl (w.heap.size + 1 + 1) _ (spC (z2, x2, y2) p) rfl rfl HG.out.out Tryz.infoSP rfl (by kernel_rfl) ?_)
    exact bodyPost_ret (results_cell_row Tryz.results34 _ _ (w.heap.size + 1 + 1) _ _ _ _ rfl HE.out.out Tryz.underlying64 rfl Tryz.infoSP) rfl ⟨⟨p, rfl⟩, HE.out.b⟩
  | false =>
    cases z2 with
    | false => cases h
    | true =>
      rw [if_neg Bool.false_ne_true, if_pos rfl]
      have HE := Lib.hid (HG.out.put hge (spC (false, x1, y1) p))
      go_enter Tryz.func34, Tryz.ntmps34
      go_upto_region 1 with (fail)
      generalize ((w.alloc _).alloc _).alloc _ = w0 at *
      have c0 := (cell_of_row w0 w.heap.size 0 _ _ _ (HG.out.h _ (.tail _ (.head _)))).trans (show _ = some (Value.bool false) from rfl)
      have c1 := (cell_of_row w0 (w.heap.size + 1) 0 _ _ _ (HG.out.h _ (.head _))).trans (show _ = some (Value.bool true) from rfl)
      go_wp2_with (first | refine load_v rfl 64 (.tmp 2) rfl w.heap.size (spC (false, x1, y1) p) rfl (HG.out.h _ (.tail _ (.head _))) Tryz.underlying64 rfl Tryz.infoSP ?_ | refine store_v rfl 64 (.tmp 4) (.tmp 15) rfl (w.heap.size + 1 + 1) _ (spC (false, x1, y1) p) rfl rfl HG.out.out Tryz.infoSP rfl (by kernel_rfl) ?_)
      exact bodyPost_ret (results_cell_row Tryz.results34 _ _ (w.heap.size + 1 + 1) _ _ _ _ rfl HE.out.out Tryz.underlying64 rfl Tryz.infoSP) rfl ⟨⟨p, rfl⟩, HE.out.b⟩
set_option maxRecDepth 8000 in
set_option maxHeartbeats 4000000 in
theorem spot_late (p x1 y1 x2 y2 : ByteArray) (w : World) : Calls Tryz.prog 34 #[.agg (spC (false, x1, y1) p), .agg (spC (false, x2, y2) p)] w (SumPost (plusT p (false, x1, y1) (false, x2, y2)) w) := by
  unfold plusT SumPost
  rw [if_neg Bool.false_ne_true, if_neg Bool.false_ne_true]
  have HSl := Lib.hid (spot_slope p x1 y1 x2 y2)
  simp only
  generalize slopeT p x1 y1 x2 y2 = sl at *
  by_cases h : x1 = x2 ∧ y1 = negR y2 p
  · rw [if_pos h]
    have hd : decide (((x1, p) : Pt) = (x2, p)) = true := by rw [h.1]; simp
    have he : decide (((y1, p) : Pt) = (negR y2 p, p)) = true := by rw [← h.2]; simp
    clear h HSl
    have HG := Lib.hid (begun3 (Held.none w) (spC (false, x1, y1) p) (spC (false, x2, y2) p) #[.bool false, .string ⟨#[]⟩, .string ⟨#[]⟩, .string ⟨#[]⟩, .string ⟨#[]⟩] 64 64 64)
    have hge : w.heap.size ≤ w.heap.size + 1 + 1 := by omega
    go_enter Tryz.func34, Tryz.ntmps34
    go_upto_region 1 with (fail)
    generalize ((w.alloc _).alloc _).alloc _ = w0 at *
    have HS := Lib.hid HG.out.h
    have c0 := (cell_of_row w0 w.heap.size 0 _ _ _ (HG.out.h _ (.tail _ (.head _)))).trans (show _ = some (Value.bool false) from rfl)
    have c1 := (cell_of_row w0 (w.heap.size + 1) 0 _ _ _ (HG.out.h _ (.head _))).trans (show _ = some (Value.bool false) from rfl)
    go_upto_region 5 with (fail)
    clear c0 c1
    replace HG := Lib.hid HG.out.drew
    replace HS := Lib.hid HG.out.h
    refine sq_go (S := fun w' => Held w' [(w.heap.size + 1, spC (false, x2, y2) p, 64), (w.heap.size, spC (false, x1, y1) p, 64)]) [(true, 0), (true, 1), (true, 2), (true, 3), (true, 4), (true, 5), (true, 6), (true, 7), (true, 8), (true, 9), (true, 10), (false, 11), (true, 12), (true, 13), (true, 14)] (by kernel_rfl) (fun d _ _ _ _ h => by cases d <;> exact h) HS.out ?_
    refine SQ.out ?_
    refine g_ps [(0, .pointer (some ⟨w.heap.size, 1, none⟩))] (by kernel_rfl) ?_
    refine g_ld (some 18) (ld_r (.tail _ (.head _)) (k := 1) rfl rfl) (by kernel_rfl) ?_
    refine g_ps [(2, .pointer (some ⟨(w.heap.size + 1), 1, none⟩))] (by kernel_rfl) ?_
    refine g_ld (some 20) (ld_r (.head _) (k := 1) rfl rfl) (by kernel_rfl) ?_
    refine g_take (some 21) (.bool true) (by kernel_rfl) (yields_eqR (by kernel_rfl) (.tmp 18) (.tmp 20) (by kernel_rfl) (x1, p) (x2, p) true hd (by kernel_rfl) (by kernel_rfl)) ?_
    refine g_ps [(5, .bool true), (6, .pointer (some ⟨w.heap.size, 3, none⟩))] (by kernel_rfl) ?_
    refine g_ld (some 24) (ld_r (.tail _ (.head _)) (k := 3) rfl rfl) (by kernel_rfl) ?_
    refine g_ps [(8, .pointer (some ⟨(w.heap.size + 1), 3, none⟩))] (by kernel_rfl) ?_
    refine g_ld (some 26) (ld_r (.head _) (k := 3) rfl rfl) (by kernel_rfl) ?_
    refine g_ps [(10, .iface 62 (.agg (aggT (y2, p))))] (by kernel_rfl) ?_
    refine g_ci (some 28) (meets_negative _) (rc_negative (y2) (p) _) (by kernel_rfl) ?_
    rintro e v1 ⟨rfl, bw⟩
    replace HG := Lib.hid (HG.out.on bw)
    have HS := Lib.hid (HG.out.h)
    clear bw
    refine ⟨_, rfl, HS.out, ?_⟩
    refine g_take (some 29) (.bool true) (by kernel_rfl) (yields_eqR (wanted_by (g := 5) (b := true) (d := 22) (by kernel_rfl) (by kernel_rfl) (by kernel_rfl) (by kernel_rfl)) (.tmp 24) (.tmp 28) (by kernel_rfl) (y1, p) (negR y2 p, p) true he (by kernel_rfl) (by kernel_rfl)) ?_
    refine g_ps [(13, .bool true), (14, .bool true)] (by kernel_rfl) ?_
    refine g_norm { tmps := List.toArray (List.append [.agg (spC (false, x1, y1) p), .agg (spC (false, x2, y2) p), .pointer (some ⟨w.heap.size, 0, none⟩), .pointer (some ⟨(w.heap.size + 1), 0, none⟩), .pointer (some ⟨(w.heap.size + 1 + 1), 0, none⟩), undef, undef, undef, .bool false, .pointer (some ⟨w.heap.size, 0, none⟩), .bool false, undef, .bool false, .pointer (some ⟨(w.heap.size + 1), 0, none⟩), .bool false, undef, .bool true, .pointer (some ⟨w.heap.size, 1, none⟩), .agg (aggT (x1, p)), .pointer (some ⟨(w.heap.size + 1), 1, none⟩), .agg (aggT (x2, p)), .bool true, .bool true, .pointer (some ⟨w.heap.size, 3, none⟩), .agg (aggT (y1, p)), .pointer (some ⟨(w.heap.size + 1), 3, none⟩), .agg (aggT (y2, p)), .iface 62 (.agg (aggT (y2, p))), .agg (aggT (negR (y2) p, p)), .bool true, .bool true, undef, undef, undef, undef, undef, undef, undef, undef, undef] ([undef, undef, undef, undef, undef, undef, undef, undef, undef, undef, undef, undef, undef, undef, undef, undef, undef, undef, undef, undef, undef, undef])), defers := [] } (by kernel_rfl) ?_
    refine g_done ?_
    refine (by assumption : ∀ (a : Act) (w_1 : World), Code.wp _ _ _ a w_1 → _) _ _ ?_
    go_upto_region 6 with (fail)
    replace HS := Lib.hid HG.out.h
    refine wp_region_line (S := fun w' => Held w' [(w.heap.size + 1, spC (false, x2, y2) p, 64), (w.heap.size, spC (false, x1, y1) p, 64)]) [(true, 0), (false, 1)] (by kernel_rfl) (by kernel_rfl) HS.out ?_
    refine sq_pure (some 31) (.agg (spC zeroT ⟨#[]⟩)) (by kernel_rfl) (by kernel_rfl) (held_build 64 #[(0, (.const (.bool true)))] (by kernel_rfl) _ (by kernel_rfl) _ built_sz) ?_
    have HE := Lib.hid (HG.out.put hge (spC zeroT ⟨#[]⟩))
    refine sq_st 64 (w.heap.size + 1 + 1) (spC zeroT ⟨#[]⟩) HG.out.out Tryz.infoSP rfl (by kernel_rfl) ((HG.out.h).setRow (HG.out.ne)) (by kernel_rfl) ?_
    refine sq_done ?_
    refine (by assumption : ∀ (a : Act) (w_1 : World), Code.wp _ Code.ret _ a w_1 → _) _ _ ?_
    refine wp_ret ?_
    try refine block_ret ?_
    try refine then_ret ?_
    exact bodyPost_ret (results_cell_row Tryz.results34 _ _ (w.heap.size + 1 + 1) _ _ _ _ (by kernel_rfl) HE.out.out Tryz.underlying64 rfl Tryz.infoSP) (by kernel_rfl) ⟨⟨_, rfl⟩, HE.out.b⟩
  · rw [if_neg h]
    have HG := Lib.hid (begun3 (Held.none w) (spC (false, x1, y1) p) (spC (false, x2, y2) p) #[.bool false, .string ⟨#[]⟩, .string ⟨#[]⟩, .string ⟨#[]⟩, .string ⟨#[]⟩] 64 64 64)
    have hge : w.heap.size ≤ w.heap.size + 1 + 1 := by omega
    go_enter Tryz.func34, Tryz.ntmps34
    go_upto_region 1 with (fail)
    generalize ((w.alloc _).alloc _).alloc _ = w0 at *
    have HS := Lib.hid HG.out.h
    have c0 := (cell_of_row w0 w.heap.size 0 _ _ _ (HG.out.h _ (.tail _ (.head _)))).trans (show _ = some (Value.bool false) from rfl)
    have c1 := (cell_of_row w0 (w.heap.size + 1) 0 _ _ _ (HG.out.h _ (.head _))).trans (show _ = some (Value.bool false) from rfl)
    go_upto_region 5 with (fail)
    clear c0 c1
    refine Code.wp_mono (Q := fun e a' w' => e = .normal ∧ ∃ (j21 j22 j23 j24 j25 j26 j27 j28 j29 : Value), a' = { tmps := List.toArray (List.append [.agg (spC (false, x1, y1) p), .agg (spC (false, x2, y2) p), .pointer (some ⟨w.heap.size, 0, none⟩), .pointer (some ⟨(w.heap.size + 1), 0, none⟩), .pointer (some ⟨(w.heap.size + 1 + 1), 0, none⟩), undef, undef, undef, .bool false, .pointer (some ⟨w.heap.size, 0, none⟩), .bool false, undef, .bool false, .pointer (some ⟨(w.heap.size + 1), 0, none⟩), .bool false, undef, .bool false, .pointer (some ⟨w.heap.size, 1, none⟩), .agg (aggT (x1, p)), .pointer (some ⟨(w.heap.size + 1), 1, none⟩), .agg (aggT (x2, p)), j21, j22, j23, j24, j25, j26, j27, j28, j29, .bool false, undef, undef, undef, undef, undef, undef, undef, undef, undef] ([undef, undef, undef, undef, undef, undef, undef, undef, undef, undef, undef, undef, undef, undef, undef, undef, undef, undef, undef, undef, undef, undef])), defers := [] } ∧ Begun w w' [(w.heap.size + 1, spC (false, x2, y2) p, 64), (w.heap.size, spC (false, x1, y1) p, 64)] (w.heap.size + 1 + 1) #[.bool false, .string ⟨#[]⟩, .string ⟨#[]⟩, .string ⟨#[]⟩, .string ⟨#[]⟩] 64) ?_ ?_
    rotate_left
    · by_cases h1 : x1 = x2
      · have hd : decide (((x1, p) : Pt) = (x2, p)) = true := by rw [h1]; simp
        have he : decide (((y1, p) : Pt) = (negR y2 p, p)) = false := decide_eq_false (fun e => h ⟨h1, by simpa using e⟩)
        clear h h1
        replace HG := Lib.hid HG.out.drew
        replace HS := Lib.hid HG.out.h
        refine sq_go (S := fun w' => Held w' [(w.heap.size + 1, spC (false, x2, y2) p, 64), (w.heap.size, spC (false, x1, y1) p, 64)]) [(true, 0), (true, 1), (true, 2), (true, 3), (true, 4), (true, 5), (true, 6), (true, 7), (true, 8), (true, 9), (true, 10), (false, 11), (true, 12), (true, 13), (true, 14)] (by kernel_rfl) (fun _ _ _ _ _ h => by cases h.1) HS.out ?_
        refine SQ.out ?_
        refine g_ps [(0, .pointer (some ⟨w.heap.size, 1, none⟩))] (by kernel_rfl) ?_
        refine g_ld (some 18) (ld_r (.tail _ (.head _)) (k := 1) rfl rfl) (by kernel_rfl) ?_
        refine g_ps [(2, .pointer (some ⟨(w.heap.size + 1), 1, none⟩))] (by kernel_rfl) ?_
        refine g_ld (some 20) (ld_r (.head _) (k := 1) rfl rfl) (by kernel_rfl) ?_
        refine g_take (some 21) (.bool true) (by kernel_rfl) (yields_eqR (by kernel_rfl) (.tmp 18) (.tmp 20) (by kernel_rfl) (x1, p) (x2, p) true hd (by kernel_rfl) (by kernel_rfl)) ?_
        refine g_ps [(5, .bool true), (6, .pointer (some ⟨w.heap.size, 3, none⟩))] (by kernel_rfl) ?_
        refine g_ld (some 24) (ld_r (.tail _ (.head _)) (k := 3) rfl rfl) (by kernel_rfl) ?_
        refine g_ps [(8, .pointer (some ⟨(w.heap.size + 1), 3, none⟩))] (by kernel_rfl) ?_
        refine g_ld (some 26) (ld_r (.head _) (k := 3) rfl rfl) (by kernel_rfl) ?_
        refine g_ps [(10, .iface 62 (.agg (aggT (y2, p))))] (by kernel_rfl) ?_
        refine g_ci (some 28) (meets_negative _) (rc_negative (y2) (p) _) (by kernel_rfl) ?_
        rintro e v1 ⟨rfl, bw⟩
        replace HG := Lib.hid (HG.out.on bw)
        have HS := Lib.hid (HG.out.h)
        clear bw
        refine ⟨_, rfl, HS.out, ?_⟩
        refine g_take (some 29) (.bool false) (by kernel_rfl) (yields_eqR (wanted_by (g := 5) (b := true) (d := 22) (by kernel_rfl) (by kernel_rfl) (by kernel_rfl) (by kernel_rfl)) (.tmp 24) (.tmp 28) (by kernel_rfl) (y1, p) (negR y2 p, p) false he (by kernel_rfl) (by kernel_rfl)) ?_
        refine g_ps [(13, .bool false), (14, .bool false)] (by kernel_rfl) ?_
        refine g_norm { tmps := List.toArray (List.append [.agg (spC (false, x1, y1) p), .agg (spC (false, x2, y2) p), .pointer (some ⟨w.heap.size, 0, none⟩), .pointer (some ⟨(w.heap.size + 1), 0, none⟩), .pointer (some ⟨(w.heap.size + 1 + 1), 0, none⟩), undef, undef, undef, .bool false, .pointer (some ⟨w.heap.size, 0, none⟩), .bool false, undef, .bool false, .pointer (some ⟨(w.heap.size + 1), 0, none⟩), .bool false, undef, .bool false, .pointer (some ⟨w.heap.size, 1, none⟩), .agg (aggT (x1, p)), .pointer (some ⟨(w.heap.size + 1), 1, none⟩), .agg (aggT (x2, p)), .bool true, .bool true, .pointer (some ⟨w.heap.size, 3, none⟩), .agg (aggT (y1, p)), .pointer (some ⟨(w.heap.size + 1), 3, none⟩), .agg (aggT (y2, p)), .iface 62 (.agg (aggT (y2, p))), .agg (aggT (negR (y2) p, p)), .bool false, .bool false, undef, undef, undef, undef, undef, undef, undef, undef, undef] ([undef, undef, undef, undef, undef, undef, undef, undef, undef, undef, undef, undef, undef, undef, undef, undef, undef, undef, undef, undef, undef, undef])), defers := [] } (by kernel_rfl) ?_
        refine g_done ?_
        exact ⟨rfl, .bool true, .bool true, .pointer (some ⟨w.heap.size, 3, none⟩), .agg (aggT (y1, p)), .pointer (some ⟨(w.heap.size + 1), 3, none⟩), .agg (aggT (y2, p)), .iface 62 (.agg (aggT (y2, p))), .agg (aggT (negR (y2) p, p)), .bool false, rfl, HG.out⟩
      · have hd : decide (((x1, p) : Pt) = (x2, p)) = false := decide_eq_false (fun e => h1 (by simpa using e))
        clear h h1
        replace HG := Lib.hid HG.out.drew
        replace HS := Lib.hid HG.out.h
        refine sq_go (S := fun w' => Held w' [(w.heap.size + 1, spC (false, x2, y2) p, 64), (w.heap.size, spC (false, x1, y1) p, 64)]) [(true, 0), (true, 1), (true, 2), (true, 3), (true, 4), (true, 5), (true, 6), (true, 7), (true, 8), (true, 9), (true, 10), (true, 11), (true, 12), (true, 13), (true, 14)] (by kernel_rfl) (fun _ _ _ _ _ h => by cases h.1) HS.out ?_
        refine SQ.out ?_
        refine g_ps [(0, .pointer (some ⟨w.heap.size, 1, none⟩))] (by kernel_rfl) ?_
        refine g_ld (some 18) (ld_r (.tail _ (.head _)) (k := 1) rfl rfl) (by kernel_rfl) ?_
        refine g_ps [(2, .pointer (some ⟨(w.heap.size + 1), 1, none⟩))] (by kernel_rfl) ?_
        refine g_ld (some 20) (ld_r (.head _) (k := 1) rfl rfl) (by kernel_rfl) ?_
        refine g_take (some 21) (.bool false) (by kernel_rfl) (yields_eqR (by kernel_rfl) (.tmp 18) (.tmp 20) (by kernel_rfl) (x1, p) (x2, p) false hd (by kernel_rfl) (by kernel_rfl)) ?_
        refine g_ps [(5, .bool false)] (by kernel_rfl) ?_
        refine g_no [6, 7, 8, 9, 10, 11, 12] (by kernel_rfl) ?_
        refine g_ps [(13, .bool false), (14, .bool false)] (by kernel_rfl) ?_
        refine g_norm { tmps := List.toArray (List.append [.agg (spC (false, x1, y1) p), .agg (spC (false, x2, y2) p), .pointer (some ⟨w.heap.size, 0, none⟩), .pointer (some ⟨(w.heap.size + 1), 0, none⟩), .pointer (some ⟨(w.heap.size + 1 + 1), 0, none⟩), undef, undef, undef, .bool false, .pointer (some ⟨w.heap.size, 0, none⟩), .bool false, undef, .bool false, .pointer (some ⟨(w.heap.size + 1), 0, none⟩), .bool false, undef, .bool false, .pointer (some ⟨w.heap.size, 1, none⟩), .agg (aggT (x1, p)), .pointer (some ⟨(w.heap.size + 1), 1, none⟩), .agg (aggT (x2, p)), .bool false, .bool false, undef, undef, undef, undef, undef, undef, undef, .bool false, undef, undef, undef, undef, undef, undef, undef, undef, undef] ([undef, undef, undef, undef, undef, undef, undef, undef, undef, undef, undef, undef, undef, undef, undef, undef, undef, undef, undef, undef, undef, undef])), defers := [] } (by kernel_rfl) ?_
        refine g_done ?_
        exact ⟨rfl, .bool false, .bool false, undef, undef, undef, undef, undef, undef, undef, rfl, HG.out⟩
    rintro e a w1 ⟨rfl, j21, j22, j23, j24, j25, j26, j27, j28, j29, rfl, hG⟩
    replace HG := Lib.hid hG
    clear hG h
    refine (by assumption : ∀ (a : Act) (w_1 : World), Code.wp _ _ _ a w_1 → _) _ _ ?_
    go_upto_region 7 with (fail)
    replace HS := Lib.hid HG.out.h
    refine wp_region_line (S := fun w' => Held w' [(w.heap.size + 1, spC (false, x2, y2) p, 64), (w.heap.size, spC (false, x1, y1) p, 64)]) [(true, 0), (true, 1), (false, 2), (false, 3), (false, 4)] (by kernel_rfl) (by kernel_rfl) HS.out ?_
    refine sq_ld (some 32) (ld_sp (.tail _ (.head _)) (by kernel_rfl)) (by kernel_rfl) ?_
    refine sq_ld (some 33) (ld_sp (.head _) (by kernel_rfl)) (by kernel_rfl) ?_
    refine sq_c (some 34) Tryz.func62 (HSl.out _) (by kernel_rfl) ?_
    rintro e v1 ⟨rfl, bw⟩
    replace HG := Lib.hid (HG.out.on bw)
    have HS := Lib.hid (HG.out.h)
    clear bw
    refine ⟨_, rfl, HS.out, ?_⟩
    have GEg2 := Lib.hid HG.out.b.size
    have APg2 := Lib.hid HG.out.h.apart
    replace HG := Lib.hid (HG.out.new (aggT noP) 62)
    have HS := Lib.hid (HG.out.h.tail)
    refine sq_alloc (some 5) 62 (aggT noP) (by kernel_rfl) (by kernel_rfl) (by kernel_rfl) (by kernel_rfl) (zero_rc _) HS.out ?_
    generalize v1.alloc _ = u2 at *
    generalize v1.heap.size = g2 at *
    have HN := Lib.hid (HG.out.h _ (.head _))
    replace HG := Lib.hid (HG.out.putAt GEg2.out APg2.out (aggT (sl, p)))
    have HS := Lib.hid (HG.out.h.tail)
    refine sq_st 62 g2 (aggT (sl, p)) HN.out Tryz.infoRC rfl (by kernel_rfl) HS.out (by kernel_rfl) ?_
    clear HN
    generalize World.setRow _ g2 _ = t3 at *
    refine sq_fin { tmps := List.toArray (List.append [.agg (spC (false, x1, y1) p), .agg (spC (false, x2, y2) p), .pointer (some ⟨w.heap.size, 0, none⟩), .pointer (some ⟨(w.heap.size + 1), 0, none⟩), .pointer (some ⟨(w.heap.size + 1 + 1), 0, none⟩), .pointer (some ⟨g2, 0, none⟩), undef, undef, .bool false, .pointer (some ⟨w.heap.size, 0, none⟩), .bool false, undef, .bool false, .pointer (some ⟨(w.heap.size + 1), 0, none⟩), .bool false, undef, .bool false, .pointer (some ⟨w.heap.size, 1, none⟩), .agg (aggT (x1, p)), .pointer (some ⟨(w.heap.size + 1), 1, none⟩), .agg (aggT (x2, p)), j21, j22, j23, j24, j25, j26, j27, j28, j29, .bool false, undef, .agg (spC (false, x1, y1) p), .agg (spC (false, x2, y2) p), .agg (aggT (sl, p)), undef, undef, undef, undef, undef] ([undef, undef, undef, undef, undef, undef, undef, undef, undef, undef, undef, undef, undef, undef, undef, undef, undef, undef, undef, undef, undef, undef])), defers := [] } (by kernel_rfl) ?_
    refine (by assumption : ∀ (a : Act) (w_1 : World), Code.wp _ _ _ a w_1 → _) _ _ ?_
    go_upto_region 8 with (fail)
    replace HS := Lib.hid HG.out.h
    refine Code.wp_mono (Q := fun e a' w' => e = .normal ∧ ∃ (g4 : Nat), a' = { tmps := List.toArray (List.append [.agg (spC (false, x1, y1) p), .agg (spC (false, x2, y2) p), .pointer (some ⟨w.heap.size, 0, none⟩), .pointer (some ⟨(w.heap.size + 1), 0, none⟩), .pointer (some ⟨(w.heap.size + 1 + 1), 0, none⟩), .pointer (some ⟨g2, 0, none⟩), .pointer (some ⟨g4, 0, none⟩), undef, .bool false, .pointer (some ⟨w.heap.size, 0, none⟩), .bool false, undef, .bool false, .pointer (some ⟨(w.heap.size + 1), 0, none⟩), .bool false, undef, .bool false, .pointer (some ⟨w.heap.size, 1, none⟩), .agg (aggT (x1, p)), .pointer (some ⟨(w.heap.size + 1), 1, none⟩), .agg (aggT (x2, p)), j21, j22, j23, j24, j25, j26, j27, j28, j29, .bool false, undef, .agg (spC (false, x1, y1) p), .agg (spC (false, x2, y2) p), .agg (aggT (sl, p)), .agg (aggT ((sl), (p))), .iface 62 (.agg (aggT ((sl), (p)))), .agg (aggT ((sl), (p))), .agg (aggT (mulR ((sl)) ((sl)) (p), (p))), .iface 62 (.agg (aggT (mulR ((sl)) ((sl)) (p), (p))))] ([.pointer (some ⟨w.heap.size, 1, none⟩), .agg (aggT (x1, p)), .agg (aggT (subR (mulR ((sl)) ((sl)) (p)) (x1) (p), (p))), .iface 62 (.agg (aggT (subR (mulR ((sl)) ((sl)) (p)) (x1) (p), (p)))), .pointer (some ⟨(w.heap.size + 1), 1, none⟩), .agg (aggT (x2, p)), .agg (aggT (subR (subR (mulR ((sl)) ((sl)) (p)) (x1) (p)) (x2) (p), (p))), undef, undef, undef, undef, undef, undef, undef, undef, undef, undef, undef, undef, undef, undef, undef])), defers := [] } ∧ Begun w w' [(g4, aggT (subR (subR (mulR ((sl)) ((sl)) (p)) (x1) (p)) (x2) (p), (p)), 62), (g2, aggT (sl, p), 62), (w.heap.size + 1, spC (false, x2, y2) p, 64), (w.heap.size, spC (false, x1, y1) p, 64)] (w.heap.size + 1 + 1) #[.bool false, .string ⟨#[]⟩, .string ⟨#[]⟩, .string ⟨#[]⟩, .string ⟨#[]⟩] 64) ?_ ?_
    rotate_left
    · refine m_begin (S := fun w' => Held w' [(g2, aggT (sl, p), 62), (w.heap.size + 1, spC (false, x2, y2) p, 64), (w.heap.size, spC (false, x1, y1) p, 64)]) (by kernel_rfl) 14 (by kernel_rfl) ?_
      replace HG := Lib.hid HG.out.drew
      change wpM _ _ _ _ _ _ _ _ (World.drew _)
      generalize World.drew t3 = v400 at *
      have HS := Lib.hid HG.out.h
      refine m_s 7 [(true, 0), (true, 1), (true, 2), (true, 5), (true, 6), (true, 9), (true, 10)] 1639 (by kernel_rfl) HS.out ?_
      refine sq_ld (some 35) (ld_r (.head _) (k := 0) rfl rfl) (by kernel_rfl) ?_
      refine sq_ps [(1, .iface 62 (.agg (aggT ((sl), (p)))))] (by kernel_rfl) ?_
      refine sq_ld (some 37) (ld_r (.head _) (k := 0) rfl rfl) (by kernel_rfl) ?_
      refine sq_ps [(5, .pointer (some ⟨w.heap.size, 1, none⟩))] (by kernel_rfl) ?_
      refine sq_ld (some 41) (ld_r (.tail _ (.tail _ (.head _))) (k := 1) rfl rfl) (by kernel_rfl) ?_
      refine sq_ps [(9, .pointer (some ⟨(w.heap.size + 1), 1, none⟩))] (by kernel_rfl) ?_
      refine sq_ld (some 45) (ld_r (.tail _ (.head _)) (k := 1) rfl rfl) (by kernel_rfl) ?_
      refine sq_done ?_
      refine m_w 6 [3, 12] (by kernel_rfl) ?_
      intro i hi
      rcases (by simpa using hi : i = 3 ∨ i = 12) with rfl | rfl
      · refine sq_ci (some 38) (meets_times _ _) (rc_times ((sl)) ((p)) ((sl)) ((p)) _) (by kernel_rfl) ?_
        rintro e v401 ⟨rfl, bw⟩
        replace HG := Lib.hid (HG.out.on bw)
        have HS := Lib.hid (HG.out.h)
        clear bw
        refine ⟨_, rfl, HS.out, ?_⟩
        refine sq_done ?_
        refine m_mask (M' := 1647) (by kernel_rfl) ?_
        refine m_s 5 [(true, 4)] 1663 (by kernel_rfl) HS.out ?_
        refine sq_ps [(4, .iface 62 (.agg (aggT (mulR ((sl)) ((sl)) (p), (p)))))] (by kernel_rfl) ?_
        refine sq_done ?_
        refine m_w 4 [7, 12] (by kernel_rfl) ?_
        intro i hi
        rcases (by simpa using hi : i = 7 ∨ i = 12) with rfl | rfl
        · refine sq_ci (some 42) (meets_less _ _) (rc_less (mulR ((sl)) ((sl)) (p)) ((p)) (x1) (p) _) (by kernel_rfl) ?_
          rintro e v402 ⟨rfl, bw⟩
          replace HG := Lib.hid (HG.out.on bw)
          have HS := Lib.hid (HG.out.h)
          clear bw
          refine ⟨_, rfl, HS.out, ?_⟩
          refine sq_done ?_
          refine m_mask (M' := 1791) (by kernel_rfl) ?_
          refine m_s 3 [(true, 8)] 2047 (by kernel_rfl) HS.out ?_
          refine sq_ps [(8, .iface 62 (.agg (aggT (subR (mulR ((sl)) ((sl)) (p)) (x1) (p), (p)))))] (by kernel_rfl) ?_
          refine sq_done ?_
          refine m_w 2 [11, 12] (by kernel_rfl) ?_
          intro i hi
          rcases (by simpa using hi : i = 11 ∨ i = 12) with rfl | rfl
          · refine sq_ci (some 46) (meets_less _ _) (rc_less (subR (mulR ((sl)) ((sl)) (p)) (x1) (p)) ((p)) (x2) (p) _) (by kernel_rfl) ?_
            rintro e v403 ⟨rfl, bw⟩
            replace HG := Lib.hid (HG.out.on bw)
            have HS := Lib.hid (HG.out.h)
            clear bw
            refine ⟨_, rfl, HS.out, ?_⟩
            refine sq_done ?_
            refine m_mask (M' := 4095) (by kernel_rfl) ?_
            refine m_s 1 [(false, 12)] 8191 (by kernel_rfl) HS.out ?_
            have GEg4 := Lib.hid HG.out.b.size
            have APg4 := Lib.hid HG.out.h.apart
            replace HG := Lib.hid (HG.out.new (aggT noP) 62)
            have HS := Lib.hid (HG.out.h.tail)
            refine sq_alloc (some 6) 62 (aggT noP) (by kernel_rfl) (by kernel_rfl) (by kernel_rfl) (by kernel_rfl) (zero_rc _) HS.out ?_
            generalize v403.alloc _ = u404 at *
            generalize v403.heap.size = g4 at *
            refine sq_done ?_
            refine m_s 0 [(false, 13)] 16383 (by kernel_rfl) HS.out ?_
            have HN := Lib.hid (HG.out.h _ (.head _))
            replace HG := Lib.hid (HG.out.putAt GEg4.out APg4.out (aggT (subR (subR (mulR ((sl)) ((sl)) (p)) (x1) (p)) (x2) (p), (p))))
            have HS := Lib.hid (HG.out.h.tail)
            refine sq_st 62 g4 (aggT (subR (subR (mulR ((sl)) ((sl)) (p)) (x1) (p)) (x2) (p), (p))) HN.out Tryz.infoRC rfl (by kernel_rfl) HS.out (by kernel_rfl) ?_
            clear HN
            generalize World.setRow _ g4 _ = t405 at *
            refine sq_done ?_
            refine m_fin (by kernel_rfl) ?_
            exact ⟨rfl, g4, by kernel_rfl, HG.out⟩
          · have GEg4 := Lib.hid HG.out.b.size
            have APg4 := Lib.hid HG.out.h.apart
            replace HG := Lib.hid (HG.out.new (aggT noP) 62)
            have HS := Lib.hid (HG.out.h.tail)
            refine sq_alloc (some 6) 62 (aggT noP) (by kernel_rfl) (by kernel_rfl) (by kernel_rfl) (by kernel_rfl) (zero_rc _) HS.out ?_
            generalize v402.alloc _ = u406 at *
            generalize v402.heap.size = g4 at *
            refine sq_done ?_
            refine m_mask (M' := 6143) (by kernel_rfl) ?_
            refine m_s 1 [(false, 11)] 8191 (by kernel_rfl) HS.out ?_
            refine sq_ci (some 46) (meets_less _ _) (rc_less (subR (mulR ((sl)) ((sl)) (p)) (x1) (p)) ((p)) (x2) (p) _) (by kernel_rfl) ?_
            rintro e v407 ⟨rfl, bw⟩
            replace HG := Lib.hid (HG.out.on bw)
            have HS := Lib.hid (HG.out.h.tail)
            clear bw
            refine ⟨_, rfl, HS.out, ?_⟩
            refine sq_done ?_
            refine m_s 0 [(false, 13)] 16383 (by kernel_rfl) HS.out ?_
            have HN := Lib.hid (HG.out.h _ (.head _))
            replace HG := Lib.hid (HG.out.putAt GEg4.out APg4.out (aggT (subR (subR (mulR ((sl)) ((sl)) (p)) (x1) (p)) (x2) (p), (p))))
            have HS := Lib.hid (HG.out.h.tail)
            refine sq_st 62 g4 (aggT (subR (subR (mulR ((sl)) ((sl)) (p)) (x1) (p)) (x2) (p), (p))) HN.out Tryz.infoRC rfl (by kernel_rfl) HS.out (by kernel_rfl) ?_
            clear HN
            generalize World.setRow _ g4 _ = t408 at *
            refine sq_done ?_
            refine m_fin (by kernel_rfl) ?_
            exact ⟨rfl, g4, by kernel_rfl, HG.out⟩
        · have GEg4 := Lib.hid HG.out.b.size
          have APg4 := Lib.hid HG.out.h.apart
          replace HG := Lib.hid (HG.out.new (aggT noP) 62)
          have HS := Lib.hid (HG.out.h.tail)
          refine sq_alloc (some 6) 62 (aggT noP) (by kernel_rfl) (by kernel_rfl) (by kernel_rfl) (by kernel_rfl) (zero_rc _) HS.out ?_
          generalize v401.alloc _ = u409 at *
          generalize v401.heap.size = g4 at *
          refine sq_done ?_
          refine m_mask (M' := 5759) (by kernel_rfl) ?_
          refine m_s 3 [(false, 7)] 5887 (by kernel_rfl) HS.out ?_
          refine sq_ci (some 42) (meets_less _ _) (rc_less (mulR ((sl)) ((sl)) (p)) ((p)) (x1) (p) _) (by kernel_rfl) ?_
          rintro e v410 ⟨rfl, bw⟩
          replace HG := Lib.hid (HG.out.on bw)
          have HS := Lib.hid (HG.out.h.tail)
          clear bw
          refine ⟨_, rfl, HS.out, ?_⟩
          refine sq_done ?_
          refine m_s 2 [(true, 8)] 6143 (by kernel_rfl) HS.out ?_
          refine sq_ps [(8, .iface 62 (.agg (aggT (subR (mulR ((sl)) ((sl)) (p)) (x1) (p), (p)))))] (by kernel_rfl) ?_
          refine sq_done ?_
          refine m_s 1 [(false, 11)] 8191 (by kernel_rfl) HS.out ?_
          refine sq_ci (some 46) (meets_less _ _) (rc_less (subR (mulR ((sl)) ((sl)) (p)) (x1) (p)) ((p)) (x2) (p) _) (by kernel_rfl) ?_
          rintro e v411 ⟨rfl, bw⟩
          replace HG := Lib.hid (HG.out.on bw)
          have HS := Lib.hid (HG.out.h.tail)
          clear bw
          refine ⟨_, rfl, HS.out, ?_⟩
          refine sq_done ?_
          refine m_s 0 [(false, 13)] 16383 (by kernel_rfl) HS.out ?_
          have HN := Lib.hid (HG.out.h _ (.head _))
          replace HG := Lib.hid (HG.out.putAt GEg4.out APg4.out (aggT (subR (subR (mulR ((sl)) ((sl)) (p)) (x1) (p)) (x2) (p), (p))))
          have HS := Lib.hid (HG.out.h.tail)
          refine sq_st 62 g4 (aggT (subR (subR (mulR ((sl)) ((sl)) (p)) (x1) (p)) (x2) (p), (p))) HN.out Tryz.infoRC rfl (by kernel_rfl) HS.out (by kernel_rfl) ?_
          clear HN
          generalize World.setRow _ g4 _ = t412 at *
          refine sq_done ?_
          refine m_fin (by kernel_rfl) ?_
          exact ⟨rfl, g4, by kernel_rfl, HG.out⟩
      · have GEg4 := Lib.hid HG.out.b.size
        have APg4 := Lib.hid HG.out.h.apart
        replace HG := Lib.hid (HG.out.new (aggT noP) 62)
        have HS := Lib.hid (HG.out.h.tail)
        refine sq_alloc (some 6) 62 (aggT noP) (by kernel_rfl) (by kernel_rfl) (by kernel_rfl) (by kernel_rfl) (zero_rc _) HS.out ?_
        generalize v400.alloc _ = u413 at *
        generalize v400.heap.size = g4 at *
        refine sq_done ?_
        refine m_mask (M' := 5735) (by kernel_rfl) ?_
        refine m_s 5 [(false, 3)] 5743 (by kernel_rfl) HS.out ?_
        refine sq_ci (some 38) (meets_times _ _) (rc_times ((sl)) ((p)) ((sl)) ((p)) _) (by kernel_rfl) ?_
        rintro e v414 ⟨rfl, bw⟩
        replace HG := Lib.hid (HG.out.on bw)
        have HS := Lib.hid (HG.out.h.tail)
        clear bw
        refine ⟨_, rfl, HS.out, ?_⟩
        refine sq_done ?_
        refine m_s 4 [(true, 4)] 5759 (by kernel_rfl) HS.out ?_
        refine sq_ps [(4, .iface 62 (.agg (aggT (mulR ((sl)) ((sl)) (p), (p)))))] (by kernel_rfl) ?_
        refine sq_done ?_
        refine m_s 3 [(false, 7)] 5887 (by kernel_rfl) HS.out ?_
        refine sq_ci (some 42) (meets_less _ _) (rc_less (mulR ((sl)) ((sl)) (p)) ((p)) (x1) (p) _) (by kernel_rfl) ?_
        rintro e v415 ⟨rfl, bw⟩
        replace HG := Lib.hid (HG.out.on bw)
        have HS := Lib.hid (HG.out.h.tail)
        clear bw
        refine ⟨_, rfl, HS.out, ?_⟩
        refine sq_done ?_
        refine m_s 2 [(true, 8)] 6143 (by kernel_rfl) HS.out ?_
        refine sq_ps [(8, .iface 62 (.agg (aggT (subR (mulR ((sl)) ((sl)) (p)) (x1) (p), (p)))))] (by kernel_rfl) ?_
        refine sq_done ?_
        refine m_s 1 [(false, 11)] 8191 (by kernel_rfl) HS.out ?_
        refine sq_ci (some 46) (meets_less _ _) (rc_less (subR (mulR ((sl)) ((sl)) (p)) (x1) (p)) ((p)) (x2) (p) _) (by kernel_rfl) ?_
        rintro e v416 ⟨rfl, bw⟩
        replace HG := Lib.hid (HG.out.on bw)
        have HS := Lib.hid (HG.out.h.tail)
        clear bw
        refine ⟨_, rfl, HS.out, ?_⟩
        refine sq_done ?_
        refine m_s 0 [(false, 13)] 16383 (by kernel_rfl) HS.out ?_
        have HN := Lib.hid (HG.out.h _ (.head _))
        replace HG := Lib.hid (HG.out.putAt GEg4.out APg4.out (aggT (subR (subR (mulR ((sl)) ((sl)) (p)) (x1) (p)) (x2) (p), (p))))
        have HS := Lib.hid (HG.out.h.tail)
        refine sq_st 62 g4 (aggT (subR (subR (mulR ((sl)) ((sl)) (p)) (x1) (p)) (x2) (p), (p))) HN.out Tryz.infoRC rfl (by kernel_rfl) HS.out (by kernel_rfl) ?_
        clear HN
        generalize World.setRow _ g4 _ = t417 at *
        refine sq_done ?_
        refine m_fin (by kernel_rfl) ?_
        exact ⟨rfl, g4, by kernel_rfl, HG.out⟩
    rintro e a t4 ⟨rfl, g4, rfl, hG⟩
    replace HG := Lib.hid hG
    clear hG
    refine (by assumption : ∀ (a : Act) (w_1 : World), Code.wp _ _ _ a w_1 → _) _ _ ?_
    go_upto_region 9 with (fail)
    replace HS := Lib.hid HG.out.h
    refine Code.wp_mono (Q := fun e a' w' => e = .normal ∧ ∃ (g5 : Nat), a' = { tmps := List.toArray (List.append [.agg (spC (false, x1, y1) p), .agg (spC (false, x2, y2) p), .pointer (some ⟨w.heap.size, 0, none⟩), .pointer (some ⟨(w.heap.size + 1), 0, none⟩), .pointer (some ⟨(w.heap.size + 1 + 1), 0, none⟩), .pointer (some ⟨g2, 0, none⟩), .pointer (some ⟨g4, 0, none⟩), .pointer (some ⟨g5, 0, none⟩), .bool false, .pointer (some ⟨w.heap.size, 0, none⟩), .bool false, undef, .bool false, .pointer (some ⟨(w.heap.size + 1), 0, none⟩), .bool false, undef, .bool false, .pointer (some ⟨w.heap.size, 1, none⟩), .agg (aggT (x1, p)), .pointer (some ⟨(w.heap.size + 1), 1, none⟩), .agg (aggT (x2, p)), j21, j22, j23, j24, j25, j26, j27, j28, j29, .bool false, undef, .agg (spC (false, x1, y1) p), .agg (spC (false, x2, y2) p), .agg (aggT (sl, p)), .agg (aggT ((sl), (p))), .iface 62 (.agg (aggT ((sl), (p)))), .agg (aggT ((sl), (p))), .agg (aggT (mulR ((sl)) ((sl)) (p), (p))), .iface 62 (.agg (aggT (mulR ((sl)) ((sl)) (p), (p))))] ([.pointer (some ⟨w.heap.size, 1, none⟩), .agg (aggT (x1, p)), .agg (aggT (subR (mulR ((sl)) ((sl)) (p)) (x1) (p), (p))), .iface 62 (.agg (aggT (subR (mulR ((sl)) ((sl)) (p)) (x1) (p), (p)))), .pointer (some ⟨(w.heap.size + 1), 1, none⟩), .agg (aggT (x2, p)), .agg (aggT (subR (subR (mulR ((sl)) ((sl)) (p)) (x1) (p)) (x2) (p), (p))), .agg (aggT ((sl), (p))), .iface 62 (.agg (aggT ((sl), (p)))), .pointer (some ⟨w.heap.size, 1, none⟩), .agg (aggT (x1, p)), .iface 62 (.agg (aggT (x1, p))), .agg (aggT ((subR (subR (mulR ((sl)) ((sl)) (p)) (x1) (p)) (x2) (p)), ((p)))), .agg (aggT (subR (x1) ((subR (subR (mulR ((sl)) ((sl)) (p)) (x1) (p)) (x2) (p))) p, p)), .agg (aggT (mulR ((sl)) (subR (x1) ((subR (subR (mulR ((sl)) ((sl)) (p)) (x1) (p)) (x2) (p))) p) (p), (p))), .iface 62 (.agg (aggT (mulR ((sl)) (subR (x1) ((subR (subR (mulR ((sl)) ((sl)) (p)) (x1) (p)) (x2) (p))) p) (p), (p)))), .pointer (some ⟨w.heap.size, 3, none⟩), .agg (aggT (y1, p)), .agg (aggT (subR (mulR ((sl)) (subR (x1) ((subR (subR (mulR ((sl)) ((sl)) (p)) (x1) (p)) (x2) (p))) p) (p)) (y1) (p), (p))), undef, undef, undef])), defers := [] } ∧ Begun w w' [(g5, aggT (subR (mulR ((sl)) (subR (x1) ((subR (subR (mulR ((sl)) ((sl)) (p)) (x1) (p)) (x2) (p))) p) (p)) (y1) (p), (p)), 62), (g4, aggT (subR (subR (mulR ((sl)) ((sl)) (p)) (x1) (p)) (x2) (p), (p)), 62), (g2, aggT (sl, p), 62), (w.heap.size + 1, spC (false, x2, y2) p, 64), (w.heap.size, spC (false, x1, y1) p, 64)] (w.heap.size + 1 + 1) #[.bool false, .string ⟨#[]⟩, .string ⟨#[]⟩, .string ⟨#[]⟩, .string ⟨#[]⟩] 64) ?_ ?_
    rotate_left
    · refine m_begin (S := fun w' => Held w' [(g4, aggT (subR (subR (mulR ((sl)) ((sl)) (p)) (x1) (p)) (x2) (p), (p)), 62), (g2, aggT (sl, p), 62), (w.heap.size + 1, spC (false, x2, y2) p, 64), (w.heap.size, spC (false, x1, y1) p, 64)]) (by kernel_rfl) 14 (by kernel_rfl) ?_
      replace HG := Lib.hid HG.out.drew
      change wpM _ _ _ _ _ _ _ _ (World.drew _)
      generalize World.drew t4 = v500 at *
      have HS := Lib.hid HG.out.h
      refine m_s 6 [(true, 0), (true, 1), (true, 2), (true, 3), (true, 4), (true, 5), (true, 9), (true, 10)] 1599 (by kernel_rfl) HS.out ?_
      refine sq_ld (some 47) (ld_r (.tail _ (.head _)) (k := 0) rfl rfl) (by kernel_rfl) ?_
      refine sq_ps [(1, .iface 62 (.agg (aggT ((sl), (p)))))] (by kernel_rfl) ?_
      refine sq_ps [(2, .pointer (some ⟨w.heap.size, 1, none⟩))] (by kernel_rfl) ?_
      refine sq_ld (some 50) (ld_r (.tail _ (.tail _ (.tail _ (.head _)))) (k := 1) rfl rfl) (by kernel_rfl) ?_
      refine sq_ps [(4, .iface 62 (.agg (aggT (x1, p))))] (by kernel_rfl) ?_
      refine sq_ld (some 52) (ld_r (.head _) (k := 0) rfl rfl) (by kernel_rfl) ?_
      refine sq_ps [(9, .pointer (some ⟨w.heap.size, 3, none⟩))] (by kernel_rfl) ?_
      refine sq_ld (some 57) (ld_r (.tail _ (.tail _ (.tail _ (.head _)))) (k := 3) rfl rfl) (by kernel_rfl) ?_
      refine sq_done ?_
      refine m_w 5 [6, 12] (by kernel_rfl) ?_
      intro i hi
      rcases (by simpa using hi : i = 6 ∨ i = 12) with rfl | rfl
      · refine sq_ci (some 53) (meets_less _ _) (rc_less (x1) (p) ((subR (subR (mulR ((sl)) ((sl)) (p)) (x1) (p)) (x2) (p))) (((p))) _) (by kernel_rfl) ?_
        rintro e v501 ⟨rfl, bw⟩
        replace HG := Lib.hid (HG.out.on bw)
        have HS := Lib.hid (HG.out.h)
        clear bw
        refine ⟨_, rfl, HS.out, ?_⟩
        refine sq_done ?_
        refine m_mask (M' := 1663) (by kernel_rfl) ?_
        refine m_w 4 [7, 12] (by kernel_rfl) ?_
        intro i hi
        rcases (by simpa using hi : i = 7 ∨ i = 12) with rfl | rfl
        · refine sq_ci (some 54) (meets_times _ _) (rc_times ((sl)) ((p)) (subR (x1) ((subR (subR (mulR ((sl)) ((sl)) (p)) (x1) (p)) (x2) (p))) p) (p) _) (by kernel_rfl) ?_
          rintro e v502 ⟨rfl, bw⟩
          replace HG := Lib.hid (HG.out.on bw)
          have HS := Lib.hid (HG.out.h)
          clear bw
          refine ⟨_, rfl, HS.out, ?_⟩
          refine sq_done ?_
          refine m_mask (M' := 1791) (by kernel_rfl) ?_
          refine m_s 3 [(true, 8)] 2047 (by kernel_rfl) HS.out ?_
          refine sq_ps [(8, .iface 62 (.agg (aggT (mulR ((sl)) (subR (x1) ((subR (subR (mulR ((sl)) ((sl)) (p)) (x1) (p)) (x2) (p))) p) (p), (p)))))] (by kernel_rfl) ?_
          refine sq_done ?_
          refine m_w 2 [11, 12] (by kernel_rfl) ?_
          intro i hi
          rcases (by simpa using hi : i = 11 ∨ i = 12) with rfl | rfl
          · refine sq_ci (some 58) (meets_less _ _) (rc_less (mulR ((sl)) (subR (x1) ((subR (subR (mulR ((sl)) ((sl)) (p)) (x1) (p)) (x2) (p))) p) (p)) ((p)) (y1) (p) _) (by kernel_rfl) ?_
            rintro e v503 ⟨rfl, bw⟩
            replace HG := Lib.hid (HG.out.on bw)
            have HS := Lib.hid (HG.out.h)
            clear bw
            refine ⟨_, rfl, HS.out, ?_⟩
            refine sq_done ?_
            refine m_mask (M' := 4095) (by kernel_rfl) ?_
            refine m_s 1 [(false, 12)] 8191 (by kernel_rfl) HS.out ?_
            have GEg5 := Lib.hid HG.out.b.size
            have APg5 := Lib.hid HG.out.h.apart
            replace HG := Lib.hid (HG.out.new (aggT noP) 62)
            have HS := Lib.hid (HG.out.h.tail)
            refine sq_alloc (some 7) 62 (aggT noP) (by kernel_rfl) (by kernel_rfl) (by kernel_rfl) (by kernel_rfl) (zero_rc _) HS.out ?_
            generalize v503.alloc _ = u504 at *
            generalize v503.heap.size = g5 at *
            refine sq_done ?_
            refine m_s 0 [(false, 13)] 16383 (by kernel_rfl) HS.out ?_
            have HN := Lib.hid (HG.out.h _ (.head _))
            replace HG := Lib.hid (HG.out.putAt GEg5.out APg5.out (aggT (subR (mulR ((sl)) (subR (x1) ((subR (subR (mulR ((sl)) ((sl)) (p)) (x1) (p)) (x2) (p))) p) (p)) (y1) (p), (p))))
            have HS := Lib.hid (HG.out.h.tail)
            refine sq_st 62 g5 (aggT (subR (mulR ((sl)) (subR (x1) ((subR (subR (mulR ((sl)) ((sl)) (p)) (x1) (p)) (x2) (p))) p) (p)) (y1) (p), (p))) HN.out Tryz.infoRC rfl (by kernel_rfl) HS.out (by kernel_rfl) ?_
            clear HN
            generalize World.setRow _ g5 _ = t505 at *
            refine sq_done ?_
            refine m_fin (by kernel_rfl) ?_
            exact ⟨rfl, g5, by kernel_rfl, HG.out⟩
          · have GEg5 := Lib.hid HG.out.b.size
            have APg5 := Lib.hid HG.out.h.apart
            replace HG := Lib.hid (HG.out.new (aggT noP) 62)
            have HS := Lib.hid (HG.out.h.tail)
            refine sq_alloc (some 7) 62 (aggT noP) (by kernel_rfl) (by kernel_rfl) (by kernel_rfl) (by kernel_rfl) (zero_rc _) HS.out ?_
            generalize v502.alloc _ = u506 at *
            generalize v502.heap.size = g5 at *
            refine sq_done ?_
            refine m_mask (M' := 6143) (by kernel_rfl) ?_
            refine m_s 1 [(false, 11)] 8191 (by kernel_rfl) HS.out ?_
            refine sq_ci (some 58) (meets_less _ _) (rc_less (mulR ((sl)) (subR (x1) ((subR (subR (mulR ((sl)) ((sl)) (p)) (x1) (p)) (x2) (p))) p) (p)) ((p)) (y1) (p) _) (by kernel_rfl) ?_
            rintro e v507 ⟨rfl, bw⟩
            replace HG := Lib.hid (HG.out.on bw)
            have HS := Lib.hid (HG.out.h.tail)
            clear bw
            refine ⟨_, rfl, HS.out, ?_⟩
            refine sq_done ?_
            refine m_s 0 [(false, 13)] 16383 (by kernel_rfl) HS.out ?_
            have HN := Lib.hid (HG.out.h _ (.head _))
            replace HG := Lib.hid (HG.out.putAt GEg5.out APg5.out (aggT (subR (mulR ((sl)) (subR (x1) ((subR (subR (mulR ((sl)) ((sl)) (p)) (x1) (p)) (x2) (p))) p) (p)) (y1) (p), (p))))
            have HS := Lib.hid (HG.out.h.tail)
            refine sq_st 62 g5 (aggT (subR (mulR ((sl)) (subR (x1) ((subR (subR (mulR ((sl)) ((sl)) (p)) (x1) (p)) (x2) (p))) p) (p)) (y1) (p), (p))) HN.out Tryz.infoRC rfl (by kernel_rfl) HS.out (by kernel_rfl) ?_
            clear HN
            generalize World.setRow _ g5 _ = t508 at *
            refine sq_done ?_
            refine m_fin (by kernel_rfl) ?_
            exact ⟨rfl, g5, by kernel_rfl, HG.out⟩
        · have GEg5 := Lib.hid HG.out.b.size
          have APg5 := Lib.hid HG.out.h.apart
          replace HG := Lib.hid (HG.out.new (aggT noP) 62)
          have HS := Lib.hid (HG.out.h.tail)
          refine sq_alloc (some 7) 62 (aggT noP) (by kernel_rfl) (by kernel_rfl) (by kernel_rfl) (by kernel_rfl) (zero_rc _) HS.out ?_
          generalize v501.alloc _ = u509 at *
          generalize v501.heap.size = g5 at *
          refine sq_done ?_
          refine m_mask (M' := 5759) (by kernel_rfl) ?_
          refine m_s 3 [(false, 7)] 5887 (by kernel_rfl) HS.out ?_
          refine sq_ci (some 54) (meets_times _ _) (rc_times ((sl)) ((p)) (subR (x1) ((subR (subR (mulR ((sl)) ((sl)) (p)) (x1) (p)) (x2) (p))) p) (p) _) (by kernel_rfl) ?_
          rintro e v510 ⟨rfl, bw⟩
          replace HG := Lib.hid (HG.out.on bw)
          have HS := Lib.hid (HG.out.h.tail)
          clear bw
          refine ⟨_, rfl, HS.out, ?_⟩
          refine sq_done ?_
          refine m_s 2 [(true, 8)] 6143 (by kernel_rfl) HS.out ?_
          refine sq_ps [(8, .iface 62 (.agg (aggT (mulR ((sl)) (subR (x1) ((subR (subR (mulR ((sl)) ((sl)) (p)) (x1) (p)) (x2) (p))) p) (p), (p)))))] (by kernel_rfl) ?_
          refine sq_done ?_
          refine m_s 1 [(false, 11)] 8191 (by kernel_rfl) HS.out ?_
          refine sq_ci (some 58) (meets_less _ _) (rc_less (mulR ((sl)) (subR (x1) ((subR (subR (mulR ((sl)) ((sl)) (p)) (x1) (p)) (x2) (p))) p) (p)) ((p)) (y1) (p) _) (by kernel_rfl) ?_
          rintro e v511 ⟨rfl, bw⟩
          replace HG := Lib.hid (HG.out.on bw)
          have HS := Lib.hid (HG.out.h.tail)
          clear bw
          refine ⟨_, rfl, HS.out, ?_⟩
          refine sq_done ?_
          refine m_s 0 [(false, 13)] 16383 (by kernel_rfl) HS.out ?_
          have HN := Lib.hid (HG.out.h _ (.head _))
          replace HG := Lib.hid (HG.out.putAt GEg5.out APg5.out (aggT (subR (mulR ((sl)) (subR (x1) ((subR (subR (mulR ((sl)) ((sl)) (p)) (x1) (p)) (x2) (p))) p) (p)) (y1) (p), (p))))
          have HS := Lib.hid (HG.out.h.tail)
          refine sq_st 62 g5 (aggT (subR (mulR ((sl)) (subR (x1) ((subR (subR (mulR ((sl)) ((sl)) (p)) (x1) (p)) (x2) (p))) p) (p)) (y1) (p), (p))) HN.out Tryz.infoRC rfl (by kernel_rfl) HS.out (by kernel_rfl) ?_
          clear HN
          generalize World.setRow _ g5 _ = t512 at *
          refine sq_done ?_
          refine m_fin (by kernel_rfl) ?_
          exact ⟨rfl, g5, by kernel_rfl, HG.out⟩
      · have GEg5 := Lib.hid HG.out.b.size
        have APg5 := Lib.hid HG.out.h.apart
        replace HG := Lib.hid (HG.out.new (aggT noP) 62)
        have HS := Lib.hid (HG.out.h.tail)
        refine sq_alloc (some 7) 62 (aggT noP) (by kernel_rfl) (by kernel_rfl) (by kernel_rfl) (by kernel_rfl) (zero_rc _) HS.out ?_
        generalize v500.alloc _ = u513 at *
        generalize v500.heap.size = g5 at *
        refine sq_done ?_
        refine m_mask (M' := 5695) (by kernel_rfl) ?_
        refine m_s 4 [(false, 6)] 5759 (by kernel_rfl) HS.out ?_
        refine sq_ci (some 53) (meets_less _ _) (rc_less (x1) (p) ((subR (subR (mulR ((sl)) ((sl)) (p)) (x1) (p)) (x2) (p))) (((p))) _) (by kernel_rfl) ?_
        rintro e v514 ⟨rfl, bw⟩
        replace HG := Lib.hid (HG.out.on bw)
        have HS := Lib.hid (HG.out.h.tail)
        clear bw
        refine ⟨_, rfl, HS.out, ?_⟩
        refine sq_done ?_
        refine m_s 3 [(false, 7)] 5887 (by kernel_rfl) HS.out ?_
        refine sq_ci (some 54) (meets_times _ _) (rc_times ((sl)) ((p)) (subR (x1) ((subR (subR (mulR ((sl)) ((sl)) (p)) (x1) (p)) (x2) (p))) p) (p) _) (by kernel_rfl) ?_
        rintro e v515 ⟨rfl, bw⟩
        replace HG := Lib.hid (HG.out.on bw)
        have HS := Lib.hid (HG.out.h.tail)
        clear bw
        refine ⟨_, rfl, HS.out, ?_⟩
        refine sq_done ?_
        refine m_s 2 [(true, 8)] 6143 (by kernel_rfl) HS.out ?_
        refine sq_ps [(8, .iface 62 (.agg (aggT (mulR ((sl)) (subR (x1) ((subR (subR (mulR ((sl)) ((sl)) (p)) (x1) (p)) (x2) (p))) p) (p), (p)))))] (by kernel_rfl) ?_
        refine sq_done ?_
        refine m_s 1 [(false, 11)] 8191 (by kernel_rfl) HS.out ?_
        refine sq_ci (some 58) (meets_less _ _) (rc_less (mulR ((sl)) (subR (x1) ((subR (subR (mulR ((sl)) ((sl)) (p)) (x1) (p)) (x2) (p))) p) (p)) ((p)) (y1) (p) _) (by kernel_rfl) ?_
        rintro e v516 ⟨rfl, bw⟩
        replace HG := Lib.hid (HG.out.on bw)
        have HS := Lib.hid (HG.out.h.tail)
        clear bw
        refine ⟨_, rfl, HS.out, ?_⟩
        refine sq_done ?_
        refine m_s 0 [(false, 13)] 16383 (by kernel_rfl) HS.out ?_
        have HN := Lib.hid (HG.out.h _ (.head _))
        replace HG := Lib.hid (HG.out.putAt GEg5.out APg5.out (aggT (subR (mulR ((sl)) (subR (x1) ((subR (subR (mulR ((sl)) ((sl)) (p)) (x1) (p)) (x2) (p))) p) (p)) (y1) (p), (p))))
        have HS := Lib.hid (HG.out.h.tail)
        refine sq_st 62 g5 (aggT (subR (mulR ((sl)) (subR (x1) ((subR (subR (mulR ((sl)) ((sl)) (p)) (x1) (p)) (x2) (p))) p) (p)) (y1) (p), (p))) HN.out Tryz.infoRC rfl (by kernel_rfl) HS.out (by kernel_rfl) ?_
        clear HN
        generalize World.setRow _ g5 _ = t517 at *
        refine sq_done ?_
        refine m_fin (by kernel_rfl) ?_
        exact ⟨rfl, g5, by kernel_rfl, HG.out⟩
    rintro e a t5 ⟨rfl, g5, rfl, hG⟩
    replace HG := Lib.hid hG
    clear hG
    refine (by assumption : ∀ (a : Act) (w_1 : World), Code.wp _ _ _ a w_1 → _) _ _ ?_
    go_upto_region 10 with (fail)
    replace HS := Lib.hid HG.out.h
    refine wp_region_line (S := fun w' => Held w' [(g5, aggT (subR (mulR ((sl)) (subR (x1) ((subR (subR (mulR ((sl)) ((sl)) (p)) (x1) (p)) (x2) (p))) p) (p)) (y1) (p), (p)), 62), (g4, aggT (subR (subR (mulR ((sl)) ((sl)) (p)) (x1) (p)) (x2) (p), (p)), 62), (g2, aggT (sl, p), 62), (w.heap.size + 1, spC (false, x2, y2) p, 64), (w.heap.size, spC (false, x1, y1) p, 64)]) [(true, 0), (true, 1), (true, 2), (false, 3)] (by kernel_rfl) (by kernel_rfl) HS.out ?_
    refine sq_ld (some 59) (ld_r (.tail _ (.head _)) (k := 0) rfl rfl) (by kernel_rfl) ?_
    refine sq_ld (some 60) (ld_r (.head _) (k := 0) rfl rfl) (by kernel_rfl) ?_
    refine sq_pure (some 61) (.agg (spC (false, (subR (subR (mulR ((sl)) ((sl)) (p)) (x1) (p)) (x2) (p)), (subR (mulR ((sl)) (subR (x1) ((subR (subR (mulR ((sl)) ((sl)) (p)) (x1) (p)) (x2) (p))) p) (p)) (y1) (p))) ((p)))) (by kernel_rfl) (by kernel_rfl) (held_build 64 #[(1, (.tmp 59)), (2, (.tmp 60))] (by kernel_rfl) _ (by kernel_rfl) _ (built_sp _ _ _)) ?_
    have HE := Lib.hid (HG.out.put hge (spC (false, (subR (subR (mulR ((sl)) ((sl)) (p)) (x1) (p)) (x2) (p)), (subR (mulR ((sl)) (subR (x1) ((subR (subR (mulR ((sl)) ((sl)) (p)) (x1) (p)) (x2) (p))) p) (p)) (y1) (p))) ((p))))
    refine sq_st 64 (w.heap.size + 1 + 1) (spC (false, (subR (subR (mulR ((sl)) ((sl)) (p)) (x1) (p)) (x2) (p)), (subR (mulR ((sl)) (subR (x1) ((subR (subR (mulR ((sl)) ((sl)) (p)) (x1) (p)) (x2) (p))) p) (p)) (y1) (p))) ((p))) HG.out.out Tryz.infoSP rfl (by kernel_rfl) ((HG.out.h).setRow (HG.out.ne)) (by kernel_rfl) ?_
    refine sq_done ?_
    refine (by assumption : ∀ (a : Act) (w_1 : World), Code.wp _ Code.ret _ a w_1 → _) _ _ ?_
    refine wp_ret ?_
    try refine block_ret ?_
    try refine then_ret ?_
    exact bodyPost_ret (results_cell_row Tryz.results34 _ _ (w.heap.size + 1 + 1) _ _ _ _ (by kernel_rfl) HE.out.out Tryz.underlying64 rfl Tryz.infoSP) (by kernel_rfl) ⟨⟨p, rfl⟩, HE.out.b⟩
theorem spot_plus (p : ByteArray) (a b : Tp) (w : World) : Calls Tryz.prog 34 #[.agg (spC a p), .agg (spC b p)] w (SumPost (plusT p a b) w) := by
  by_cases h : (a.1 || b.1) = true
  · exact spot_early p a b h w
  · obtain ⟨z1, x1, y1⟩ := a
    obtain ⟨z2, x2, y2⟩ := b
    cases z1 <;> cases z2 <;> first | exact spot_late p x1 y1 x2 y2 w | exact absurd rfl h
end Go.Proofs.YtkmmlfocidfghaaGreat

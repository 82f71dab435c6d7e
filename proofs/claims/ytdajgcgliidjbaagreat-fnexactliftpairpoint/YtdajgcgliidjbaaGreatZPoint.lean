import Derived.Test.YtdajgcgliidjbaaGreatYSpec
import Derived.Test.YtdajgcgliidjbaaGreatEPair
import Derived.Test.YtdajgcgliidjbaaGreatJTri
import Derived.Deep.MidRow
import Derived.LoopN
import Derived.Test.YtdajgcgliidjbaaGreatQSpec
import Derived.Test.YtdajgcgliidjbaaGreatVRoot
namespace Go.Proofs.YtdajgcgliidjbaaGreat
open Go.RowKit
end Go.Proofs.YtdajgcgliidjbaaGreat
namespace Go.Proofs.YtdajgcgliidjbaaGreat
open Go.RowKit
theorem PairX.q {w : World} {v : Value} {x : Pn} (h : PairX w v x) : ∃ q : Array Value, v = .agg q := by
 obtain ⟨a, b, rfl, _⟩ := h
 exact ⟨_, rfl⟩
theorem Begun.more {w w' : World} {L : List (Nat × Array Value × TypeId)} {o g : Nat} {Z C : Array Value} {t tC : TypeId} (h : Begun w w' L o Z t) (hg : w'.heap[g]? = some (.cells C tC (0, 0))) (ne : g ≠ o) : Begun w w' ((g, C, tC) :: L) o Z t :=
 ⟨h.h.cons hg, h.out, fun q hq => by
  rcases List.mem_cons.1 hq with rfl | hq
  ·exact ne
  ·exact h.ne q hq, h.b⟩
theorem Begun.sub {w w' : World} {L L' : List (Nat × Array Value × TypeId)} {o : Nat} {Z : Array Value} {t : TypeId} (h : Begun w w' L o Z t) (hs : ∀ q ∈ L', q ∈ L) : Begun w w' L' o Z t := ⟨fun q hq => h.h q (hs q hq), h.out, fun q hq => h.ne q (hs q hq), h.b⟩
end Go.Proofs.YtdajgcgliidjbaaGreat
namespace Go.Proofs.YtdajgcgliidjbaaGreat
open Go.RowKit
end Go.Proofs.YtdajgcgliidjbaaGreat
namespace Go.Proofs.YtdajgcgliidjbaaGreat
open Go.RowKit
theorem nil_text {s : ByteArray} (h : s.toList.isEmpty = true) : s = ⟨#[]⟩ := by
 have h2 := List.isEmpty_iff.1 h
 rw [ByteArray.toList_eq] at h2
 exact ByteArray.ext (Array.toList_eq_nil_iff.1 h2)
end Go.Proofs.YtdajgcgliidjbaaGreat
namespace Go.Proofs.YtdajgcgliidjbaaGreat
open Go.RowKit
abbrev Tq := Bool × Pt × Pt
def tqT (q : Tq) : Array Value := #[.bool q.1, .string q.2.1.1, .string q.2.1.2, .string q.2.2.1, .string q.2.2.2]
def noneP (x : Pt) : Bool := x.1.toList.isEmpty && x.2.toList.isEmpty
def onPB (id : Int) (x y : Pt) : Bool := decide (mulP (gV (cvPT id)) (valP y) (valP y) = rightP (gV (cvPT id)) (valP (cvKT id)) (valP x))
def pairPtB (id : Int) (q : Tq) : Bool := cvB id && (if q.1 then noneP q.2.1 && noneP q.2.2 else pairB q.2.1 (cvPT id) && (pairB q.2.2 (cvPT id) && onPB id q.2.1 q.2.2))
def noQ : Tq := (false, noP, noP)
def zeroQ : Tq := (true, noP, noP)
def val4 (q : Tq) : P2 := if q.1 then none else some (valP q.2.1, valP q.2.2)
def txt4 : P2 → Tq
 | none => zeroQ
 | some A => (false, txtP A.1, txtP A.2)
theorem none_p {x : Pt} : noneP x = true ↔ x = noP := by
 unfold noneP
 rw [Bool.and_eq_true]
 refine ⟨fun h => Prod.ext (nil_text h.1) (nil_text h.2), fun h => ?_⟩
 rw [h]
 exact ⟨by decide +kernel, by decide +kernel⟩
structure PairFit (id : Int) (q : Tq) : Prop where
 cv : cvB id = true
 on : onP (gV (cvPT id)) (valP (cvKT id)) (val4 q)
 back : txt4 (val4 q) = q
 x : okG q.2.1.1 = true ∧ okG q.2.1.2 = true
 y : okG q.2.2.1 = true ∧ okG q.2.2.2 = true
 no : q.1 = true → q.2.1 = noP ∧ q.2.2 = noP
theorem pair_oks {x : Pt} {p : ByteArray} (h : pairB x p = true) : okG x.1 = true ∧ okG x.2 = true := ⟨(restB_lt (pairB_parts h).2.1).2.1, (restB_lt (pairB_parts h).2.2).2.1⟩
theorem pair_fit {id : Int} {q : Tq} (h : pairPtB id q = true) : PairFit id q := by
 obtain ⟨z, x, y⟩ := q
 simp only [pairPtB, Bool.and_eq_true] at h
 obtain ⟨hc, h⟩ := h
 cases z with
 | true =>
  rw [if_pos rfl, Bool.and_eq_true] at h
  have e1 := none_p.1 h.1
  have e2 := none_p.1 h.2
  subst e1 e2
  exact ⟨hc, trivial, rfl, by decide +kernel, by decide +kernel, fun _ => ⟨rfl, rfl⟩⟩
 | false =>
  rw [if_neg (by decide), Bool.and_eq_true, Bool.and_eq_true] at h
  obtain ⟨hx, hy, ho⟩ := h
  obtain ⟨ix, ex⟩ := pair_num hx
  obtain ⟨iy, ey⟩ := pair_num hy
  refine ⟨hc, ⟨ix, iy, of_decide_eq_true ho⟩, ?_, pair_oks hx, pair_oks hy, fun e => by cases e⟩
  show (false, txtP (valP x), txtP (valP y)) = (false, x, y)
  rw [← ex, ← ey]
end Go.Proofs.YtdajgcgliidjbaaGreat
namespace Go.Proofs.YtdajgcgliidjbaaGreat
open Go.RowKit
def liftQB (id : Int) (x : Pt) (gr : Bool) : Bool := (cvB id && pairB x (cvPT id)) && (psqB (cube2G id x) (cvPT id) && !(gr && noneP (prootG (cube2G id x) (cvPT id))))
def liftQG (id : Int) (x : Pt) (gr : Bool) : Tq := if liftQB id x gr then (false, x, if gr then negPG (prootG (cube2G id x) (cvPT id)) (cvPT id) else prootG (cube2G id x) (cvPT id)) else noQ
end Go.Proofs.YtdajgcgliidjbaaGreat

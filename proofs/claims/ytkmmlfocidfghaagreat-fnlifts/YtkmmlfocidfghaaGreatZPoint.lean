import Derived.Test.YtkmmlfocidfghaaGreatYSpec
import Derived.Test.YtkmmlfocidfghaaGreatEPair
import Derived.Test.YtkmmlfocidfghaaGreatXPairs
import Derived.Deep.MidRow
import Derived.LoopN
/-
  Points of spec: a point in a block, and spec's l07Zero, l07Same, l10In, l10Out.
-/
namespace Go.Proofs.YtkmmlfocidfghaaGreat
open Go.RowKit
theorem Tryz.partsPoint : (structParts Tryz.prog 25).map (fun q => (q.1.cells.toList, q.2)) = some ([.bool false, .string ⟨#[]⟩, .string ⟨#[]⟩], [(0, 1), (1, 1), (2, 1)]) := by kernel_rfl
/-- A point of texts. -/
abbrev Tp := Bool × ByteArray × ByteArray
def tpT (q : Tp) : Array Value := #[.bool q.1, .string q.2.1, .string q.2.2]
theorem built_point (x y : ByteArray) : Tryz.prog.built 25 [(1, .string x), (2, .string y)] = some (tpT (false, x, y)) := by
  cases hq : structParts Tryz.prog 25 with
  | none => have e := Tryz.partsPoint; rw [hq] at e; cases e
  | some q =>
    obtain ⟨z0, pl⟩ := q
    have e := Tryz.partsPoint
    rw [hq] at e
    simp only [Option.map_some, Option.some.injEq, Prod.mk.injEq] at e
    obtain ⟨e1, rfl⟩ := e
    rw [built_parts hq]
    have ez : z0.cells = #[.bool false] ++ #[.string ⟨#[]⟩] ++ #[.string ⟨#[]⟩] := Array.ext' (by rw [e1]; rfl)
    rw [ez, fill_step (R := #[.string x]) (off := 1) (n := 1) rfl rfl rfl rfl rfl]
    rw [show (#[.bool false] ++ #[.string x] ++ #[.string ⟨#[]⟩] : Array Value) = #[.bool false, .string x] ++ #[.string ⟨#[]⟩] ++ #[] from rfl, fill_step (R := #[.string y]) (off := 2) (n := 1) rfl rfl rfl rfl rfl]
    simp [Instr.fill, tpT]
theorem tp_cells {w : World} {g : Nat} {q : Tp} (h : w.heap[g]? = some (.cells (tpT q) 25 (0, 0))) : w.cell? ⟨g, 0, none⟩ = some (.bool q.1) ∧ w.cell? ⟨g, 1, none⟩ = some (.string q.2.1) ∧ w.cell? ⟨g, 2, none⟩ = some (.string q.2.2) :=
  ⟨(cell_of_row w g 0 _ _ _ h).trans rfl, (cell_of_row w g 1 _ _ _ h).trans rfl, (cell_of_row w g 2 _ _ _ h).trans rfl⟩
end Go.Proofs.YtkmmlfocidfghaaGreat
/-
  What chains of pairs in variables want: loads out of blocks that stand, blocks in another order.
-/
namespace Go.Proofs.YtkmmlfocidfghaaGreat
open Go.RowKit
theorem PairX.q {w : World} {v : Value} {x : Pn} (h : PairX w v x) : ∃ q : Array Value, v = .agg q := by
  obtain ⟨a, b, rfl, _⟩ := h
  exact ⟨_, rfl⟩
theorem Begun.more {w w' : World} {L : List (Nat × Array Value × TypeId)} {o g : Nat} {Z C : Array Value} {t tC : TypeId} (h : Begun w w' L o Z t) (hg : w'.heap[g]? = some (.cells C tC (0, 0))) (ne : g ≠ o) : Begun w w' ((g, C, tC) :: L) o Z t :=
  ⟨h.h.cons hg, h.out, fun q hq => by
    rcases List.mem_cons.1 hq with rfl | hq
    · exact ne
    · exact h.ne q hq, h.b⟩
theorem Begun.sub {w w' : World} {L L' : List (Nat × Array Value × TypeId)} {o : Nat} {Z : Array Value} {t : TypeId} (h : Begun w w' L o Z t) (hs : ∀ q ∈ L', q ∈ L) : Begun w w' L' o Z t := ⟨fun q hq => h.h q (hs q hq), h.out, fun q hq => h.ne q (hs q hq), h.b⟩
end Go.Proofs.YtkmmlfocidfghaaGreat
/-
  Points of spec: l07Zero, l07Same, l10In, l10Out, l10On, l10Neg.
-/
namespace Go.Proofs.YtkmmlfocidfghaaGreat
open Go.RowKit
/-- A point as texts. -/
def txt2 : P2 → Tp
  | none => (true, ⟨#[]⟩, ⟨#[]⟩)
  | some A => (false, gS A.1.1, gS A.2.1)
def InO (n : Nat) : P2 → Prop
  | none => True
  | some A => InP2 n A.1 ∧ InP2 n A.2
end Go.Proofs.YtkmmlfocidfghaaGreat
/-
  The contracts of spec's PointOk and NegPoint.
-/
namespace Go.Proofs.YtkmmlfocidfghaaGreat
open Go.RowKit
/-- Whether a point stands on a curve. -/
def onB (id : Int) (x y : ByteArray) : Bool := decide (mulP (gV (cvPT id)) (gV y, 0) (gV y, 0) = rightP (gV (cvPT id)) (gV (cvBT id), 0) (gV x, 0))
def pointB (id : Int) (q : Tp) : Bool := cvB id && (if q.1 then q.2.1.toList.isEmpty && q.2.2.toList.isEmpty else restB q.2.1 (cvPT id) && (restB q.2.2 (cvPT id) && onB id q.2.1 q.2.2))
theorem stand1 (w : World) (A : Array Value) (tA : TypeId) : Stand w (w.alloc (.cells A tA)) [(w.heap.size, A, tA)] := Stand.new ⟨Held.none w, Below.refl _ _⟩ A tA
def noT : Tp := (false, ⟨#[]⟩, ⟨#[]⟩)
/-- The numbers of a point of texts. -/
def val2 (q : Tp) : P2 := if q.1 then none else some ((gV q.2.1, 0), (gV q.2.2, 0))
def negPtG (id : Int) (q : Tp) : Tp := if pointB id q then txt2 (minusP (gV (cvPT id)) (val2 q)) else noT
/-- What is known of a point that is right. -/
structure PointFit (id : Int) (q : Tp) : Prop where
  cv : cvB id = true
  on : onP (gV (cvPT id)) (gV (cvBT id), 0) (val2 q)
  back : txt2 (val2 q) = q
  s1 : q.2.1.size ≤ 1000000
  s2 : q.2.2.size ≤ 1000000
  no : q.1 = true → q.2.1 = ⟨#[]⟩ ∧ q.2.2 = ⟨#[]⟩
theorem nil_text {s : ByteArray} (h : s.toList.isEmpty = true) : s = ⟨#[]⟩ := by
  have h2 := List.isEmpty_iff.1 h
  rw [ByteArray.toList_eq] at h2
  exact ByteArray.ext (Array.toList_eq_nil_iff.1 h2)
theorem point_fit {id : Int} {q : Tp} (h : pointB id q = true) : PointFit id q := by
  obtain ⟨z, x, y⟩ := q
  simp only [pointB, Bool.and_eq_true] at h
  obtain ⟨hc, h⟩ := h
  cases z with
  | true =>
    rw [if_pos rfl, Bool.and_eq_true] at h
    have e1 := nil_text h.1
    have e2 := nil_text h.2
    subst e1 e2
    exact ⟨hc, trivial, rfl, by decide, by decide, fun _ => ⟨rfl, rfl⟩⟩
  | false =>
    rw [if_neg (by decide), Bool.and_eq_true, Bool.and_eq_true] at h
    obtain ⟨hx, hy, ho⟩ := h
    obtain ⟨ex, lx⟩ := rest_num hx
    obtain ⟨ey, ly⟩ := rest_num hy
    refine ⟨hc, ⟨⟨lx, ?_⟩, ⟨ly, ?_⟩, of_decide_eq_true ho⟩, ?_, by have := okG_size (restB_lt hx).2.1; show x.size ≤ _; omega, by have := okG_size (restB_lt hy).2.1; show y.size ≤ _; omega, fun e => by cases e⟩
    · show 0 < _; omega
    · show 0 < _; omega
    · show (false, gS (gV x), gS (gV y)) = (false, x, y)
      rw [← ex, ← ey]
theorem val_in {p : Nat} {b : Pn} {Q : P2} (h : onP p b Q) : InO p Q := by
  cases Q with
  | none => trivial
  | some A => exact ⟨h.1, h.2.1⟩
theorem cv_field (id : Int) (w : World) : (Instr.field 43 (.agg (cvC id)) 1).run Tryz.prog w = .ok (.string (cvPT id)) w := by
  rw [cvC_eq]
  kernel_rfl
end Go.Proofs.YtkmmlfocidfghaaGreat

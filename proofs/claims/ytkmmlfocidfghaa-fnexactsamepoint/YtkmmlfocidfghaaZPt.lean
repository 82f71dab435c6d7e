import Derived.Test.YtkmmlfocidfghaaYSpec
import Derived.Test.YtkmmlfocidfghaaEPair
namespace Go.Proofs.Ytkmmlfocidfghaa
open Go.RowKit
def ptC (z : Bool) (xa xb ya yb : Value) : Array Value := #[.bool z, xa, xb, ya, yb]
theorem Try.infoPt10 : (Try.prog.info? 48).map (·.size) = some 5 := by kernel_rfl
theorem Try.parts10 : (structParts Try.prog 48).map (fun q => (q.1.cells.toList, q.2)) = some ([.bool false, .slice none 0 0, .slice none 0 0, .slice none 0 0, .slice none 0 0], [(0, 1), (1, 2), (3, 2)]) := by kernel_rfl
theorem Try.partsPoint : (structParts Try.prog 26).map (fun q => (q.1.cells.toList, q.2)) = some ([.bool false, .string ⟨#[]⟩, .string ⟨#[]⟩], [(0, 1), (1, 1), (2, 1)]) := by kernel_rfl
theorem row_load {w : World} {g k : Nat} {A : Option Addr} {n c : Nat} (h : w.cell? ⟨g, k, none⟩ = some (.slice A n c)) : (Instr.loadAt 44 (.pointer (some ⟨g, k, none⟩))).run Try.prog w = .ok (.slice A n c) w := by
  go_simp
theorem bool_load {w : World} {g k : Nat} {b : Bool} (h : w.cell? ⟨g, k, none⟩ = some (.bool b)) : (Instr.loadAt 4 (.pointer (some ⟨g, k, none⟩))).run Try.prog w = .ok (.bool b) w := by
  go_simp
theorem mid_load7 {w : World} {g o : Nat} {C : Array Value} {t : TypeId} {a b : Value} (h : w.heap[g]? = some (.cells C t (0, 0))) (h0 : C[o]? = some a) (h1 : C[o + 1]? = some b) : (Instr.loadAt 46 (.pointer (some ⟨g, o, none⟩))).run Try.prog w = .ok (.agg #[a, b]) w := by
  have e := run_loadAt_mid (P := Try.prog) w g o 46 [a, b] _ (fun j v hv => by
    rw [cell_of_row w g (o + j) _ _ _ h]
    match j with
    | 0 => exact h0.trans (by simpa using hv)
    | 1 => exact h1.trans (by simpa using hv)
    | j + 2 => simp at hv) Try.underlying46 rfl Try.info7
  simpa using e
/-- What is loaded of a point in a block. -/
structure PtAt (w : World) (g : Nat) (z : Bool) (xa xb ya yb : Value) : Prop where
  z : (Instr.loadAt 4 (.pointer (some ⟨g, 0, none⟩))).run Try.prog w = .ok (.bool z) w
  x : (Instr.loadAt 46 (.pointer (some ⟨g, 1, none⟩))).run Try.prog w = .ok (.agg #[xa, xb]) w
  y : (Instr.loadAt 46 (.pointer (some ⟨g, 3, none⟩))).run Try.prog w = .ok (.agg #[ya, yb]) w
theorem pt_at {w : World} {g : Nat} {z : Bool} {xa xb ya yb : Value} (h : w.heap[g]? = some (.cells (ptC z xa xb ya yb) 48 (0, 0))) : PtAt w g z xa xb ya yb :=
  ⟨bool_load ((cell_of_row w g 0 _ _ _ h).trans rfl), mid_load7 h rfl rfl, mid_load7 h rfl rfl⟩
/-- A value that is a point: nothing, or its rows. -/
def PtX (w : World) (v : Value) : P2 → Prop
  | none => ∃ A1 n1 c1 A2 n2 c2 A3 n3 c3 A4 n4 c4, v = .agg (ptC true (.slice A1 n1 c1) (.slice A2 n2 c2) (.slice A3 n3 c3) (.slice A4 n4 c4))
  | some A => ∃ xa xb ya yb, v = .agg (ptC false xa xb ya yb) ∧ RowX w xa A.1.1 ∧ RowX w xb A.1.2 ∧ RowX w ya A.2.1 ∧ RowX w yb A.2.2
def PtTo (Q : P2) (w : World) (e : Ending) (w' : World) : Prop := ∃ v, e = .returned v ∧ PtX w' v Q ∧ Below w.heap.size w w'
theorem PtX.below {w w' : World} {v : Value} {Q : P2} (h : PtX w v Q) (b : Below w.heap.size w w') : PtX w' v Q := by
  cases Q with
  | none => exact h
  | some A =>
    obtain ⟨xa, xb, ya, yb, e, h1, h2, h3, h4⟩ := h
    exact ⟨xa, xb, ya, yb, e, h1.below b, h2.below b, h3.below b, h4.below b⟩
/-- Its cells, whichever it is. -/
theorem PtX.cells {w : World} {v : Value} {Q : P2} (h : PtX w v Q) : ∃ A1 n1 c1 A2 n2 c2 A3 n3 c3 A4 n4 c4, v = .agg (ptC Q.isNone (.slice A1 n1 c1) (.slice A2 n2 c2) (.slice A3 n3 c3) (.slice A4 n4 c4)) := by
  cases Q with
  | none => exact h
  | some A =>
    obtain ⟨xa, xb, ya, yb, rfl, h1, h2, h3, h4⟩ := h
    obtain ⟨A1, n1, c1, rfl⟩ := h1.shape
    obtain ⟨A2, n2, c2, rfl⟩ := h2.shape
    obtain ⟨A3, n3, c3, rfl⟩ := h3.shape
    obtain ⟨A4, n4, c4, rfl⟩ := h4.shape
    exact ⟨A1, n1, c1, A2, n2, c2, A3, n3, c3, A4, n4, c4, rfl⟩
theorem PtX.pairs {w : World} {z : Bool} {xa xb ya yb : Value} {A : Pn × Pn} (h : PtX w (.agg (ptC z xa xb ya yb)) (some A)) : z = false ∧ PairX w (.agg #[xa, xb]) A.1 ∧ PairX w (.agg #[ya, yb]) A.2 := by
  obtain ⟨a, b, c, d, e, h1, h2, h3, h4⟩ := h
  simp only [Value.agg.injEq, ptC, Array.mk.injEq, List.cons.injEq, Value.bool.injEq] at e
  obtain ⟨e0, e1, e2, e3, e4, _⟩ := e
  subst e0 e1 e2 e3 e4
  exact ⟨rfl, ⟨_, _, rfl, h1, h2⟩, ⟨_, _, rfl, h3, h4⟩⟩
theorem PtX.of {w : World} {xa xb ya yb : Value} {A : Pn × Pn} (hx : PairX w (.agg #[xa, xb]) A.1) (hy : PairX w (.agg #[ya, yb]) A.2) : PtX w (.agg (ptC false xa xb ya yb)) (some A) := by
  obtain ⟨a, b, e, h1, h2⟩ := hx
  obtain ⟨c, d, e', h3, h4⟩ := hy
  simp only [Value.agg.injEq, Array.mk.injEq, List.cons.injEq] at e e'
  obtain ⟨rfl, rfl, _⟩ := e
  obtain ⟨rfl, rfl, _⟩ := e'
  exact ⟨_, _, _, _, rfl, h1, h2, h3, h4⟩
/-! Structs built. -/
theorem built_10 (z : Bool) (xa xb ya yb : Value) : Try.prog.built 48 [(0, .bool z), (1, .agg #[xa, xb]), (2, .agg #[ya, yb])] = some (ptC z xa xb ya yb) := by
  cases hq : structParts Try.prog 48 with
  | none => have e := Try.parts10; rw [hq] at e; cases e
  | some q =>
    obtain ⟨z0, pl⟩ := q
    have e := Try.parts10
    rw [hq] at e
    simp only [Option.map_some, Option.some.injEq, Prod.mk.injEq] at e
    obtain ⟨e1, rfl⟩ := e
    rw [built_parts hq]
    have ez : z0.cells = #[] ++ #[.bool false] ++ #[.slice none 0 0, .slice none 0 0, .slice none 0 0, .slice none 0 0] := Array.ext' (by rw [e1]; rfl)
    rw [ez, fill_step (R := #[.bool z]) (off := 0) (n := 1) rfl rfl rfl rfl rfl]
    rw [show (#[] ++ #[.bool z] ++ #[.slice none 0 0, .slice none 0 0, .slice none 0 0, .slice none 0 0] : Array Value) = #[.bool z] ++ #[.slice none 0 0, .slice none 0 0] ++ #[.slice none 0 0, .slice none 0 0] from rfl, fill_step (R := #[xa, xb]) (off := 1) (n := 2) rfl rfl rfl rfl rfl]
    rw [show (#[.bool z] ++ #[xa, xb] ++ #[.slice none 0 0, .slice none 0 0] : Array Value) = #[.bool z, xa, xb] ++ #[.slice none 0 0, .slice none 0 0] ++ #[] from rfl, fill_step (R := #[ya, yb]) (off := 3) (n := 2) rfl rfl rfl rfl rfl]
    simp [Instr.fill, ptC]
theorem built_10xy (xa xb ya yb : Value) : Try.prog.built 48 [(1, .agg #[xa, xb]), (2, .agg #[ya, yb])] = some (ptC false xa xb ya yb) := by
  cases hq : structParts Try.prog 48 with
  | none => have e := Try.parts10; rw [hq] at e; cases e
  | some q =>
    obtain ⟨z0, pl⟩ := q
    have e := Try.parts10
    rw [hq] at e
    simp only [Option.map_some, Option.some.injEq, Prod.mk.injEq] at e
    obtain ⟨e1, rfl⟩ := e
    rw [built_parts hq]
    have ez : z0.cells = #[.bool false] ++ #[.slice none 0 0, .slice none 0 0] ++ #[.slice none 0 0, .slice none 0 0] := Array.ext' (by rw [e1]; rfl)
    rw [ez, fill_step (R := #[xa, xb]) (off := 1) (n := 2) rfl rfl rfl rfl rfl]
    rw [show (#[.bool false] ++ #[xa, xb] ++ #[.slice none 0 0, .slice none 0 0] : Array Value) = #[.bool false, xa, xb] ++ #[.slice none 0 0, .slice none 0 0] ++ #[] from rfl, fill_step (R := #[ya, yb]) (off := 3) (n := 2) rfl rfl rfl rfl rfl]
    simp [Instr.fill, ptC]
/-- A point of texts. -/
abbrev Tp := Bool × ByteArray × ByteArray
def tpT (q : Tp) : Array Value := #[.bool q.1, .string q.2.1, .string q.2.2]
theorem built_point (x y : ByteArray) : Try.prog.built 26 [(1, .string x), (2, .string y)] = some (tpT (false, x, y)) := by
  cases hq : structParts Try.prog 26 with
  | none => have e := Try.partsPoint; rw [hq] at e; cases e
  | some q =>
    obtain ⟨z0, pl⟩ := q
    have e := Try.partsPoint
    rw [hq] at e
    simp only [Option.map_some, Option.some.injEq, Prod.mk.injEq] at e
    obtain ⟨e1, rfl⟩ := e
    rw [built_parts hq]
    have ez : z0.cells = #[.bool false] ++ #[.string ⟨#[]⟩] ++ #[.string ⟨#[]⟩] := Array.ext' (by rw [e1]; rfl)
    rw [ez, fill_step (R := #[.string x]) (off := 1) (n := 1) rfl rfl rfl rfl rfl]
    rw [show (#[.bool false] ++ #[.string x] ++ #[.string ⟨#[]⟩] : Array Value) = #[.bool false, .string x] ++ #[.string ⟨#[]⟩] ++ #[] from rfl, fill_step (R := #[.string y]) (off := 2) (n := 1) rfl rfl rfl rfl rfl]
    simp [Instr.fill, tpT]
structure TpAt (w : World) (g : Nat) (q : Tp) : Prop where
  z : (Instr.loadAt 4 (.pointer (some ⟨g, 0, none⟩))).run Try.prog w = .ok (.bool q.1) w
  x : (Instr.loadAt 9 (.pointer (some ⟨g, 1, none⟩))).run Try.prog w = .ok (.string q.2.1) w
  y : (Instr.loadAt 9 (.pointer (some ⟨g, 2, none⟩))).run Try.prog w = .ok (.string q.2.2) w
  all : (Instr.loadAt 26 (.pointer (some ⟨g, 0, none⟩))).run Try.prog w = .ok (.agg (tpT q)) w
theorem tp_at {w : World} {g : Nat} {q : Tp} (h : w.heap[g]? = some (.cells (tpT q) 26 (0, 0))) : TpAt w g q :=
  ⟨bool_load ((cell_of_row w g 0 _ _ _ h).trans rfl), str_load ((cell_of_row w g 1 _ _ _ h).trans rfl), str_load ((cell_of_row w g 2 _ _ _ h).trans rfl), cells_load h Try.underlying26 rfl Try.infoPoint⟩
theorem tp_cells {w : World} {g : Nat} {q : Tp} (h : w.heap[g]? = some (.cells (tpT q) 26 (0, 0))) : w.cell? ⟨g, 0, none⟩ = some (.bool q.1) ∧ w.cell? ⟨g, 1, none⟩ = some (.string q.2.1) ∧ w.cell? ⟨g, 2, none⟩ = some (.string q.2.2) :=
  ⟨(cell_of_row w g 0 _ _ _ h).trans rfl, (cell_of_row w g 1 _ _ _ h).trans rfl, (cell_of_row w g 2 _ _ _ h).trans rfl⟩
end Go.Proofs.Ytkmmlfocidfghaa

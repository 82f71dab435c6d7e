import Derived.Test.YtdajgcgliidjbaaZQb
import Derived.ChangeArms
import Derived.ChangeSame
import Derived.WideShapes
namespace Go.Proofs.Ytdajgcgliidjbaa
open Go.RowKit Go.ChangeShapes Go.WideShapes Go.ChangeAt
section
variable {H : Type} {enc : TypeId × Value → H} {w : World} {base : Nat} {spare : Nat → Bool} {held : Bool}
theorem Try.cells_string : Try.prog.cellsOf 9 = 1 := by kernel_rfl
theorem Try.cells_laws_Pair : Try.prog.cellsOf 23 = 2 := by kernel_rfl
theorem Try.info_lpr : (Try.prog.info? 23).map (·.size) = some 2 := by kernel_rfl
def dat_laws_Pair (q : Pt) : DataW H := .agg [.lit (.string q.1.data.toList), .lit (.string q.2.data.toList)]
def wf_laws_Pair (q : Pt) : Prop := q.1.size ≤ maxLen ∧ q.2.size ≤ maxLen
set_option maxRecDepth 100000 in
theorem trod_laws_Pair {n : Nat} {cs : List Value} {y : DataW H × List MemPlace} (h : DataW.trod enc Try.prog w base spare held n 23 cs = some y) : ∃ q : Pt, cs = (aggT q).toList ∧ y = (dat_laws_Pair q, []) ∧ wf_laws_Pair q := by
  obtain ⟨xs, m, _, rfl, hl, hlen, hf⟩ := DataW.trod_struct Try.underlying23 h
  rw [Try.cells_laws_Pair] at hl
  match xs, hlen, cs, hl with
  | [y0, y1], _, [c0, c1], _ =>
    have k0 : DataW.trod enc Try.prog w base spare held m 9 [c0] = some y0 := by simpa [Try.cells_string] using hf 0 _ rfl
    obtain ⟨a0, e0, rfl, w0⟩ := DataW.trod_string Try.underlying9 k0
    simp only [List.cons.injEq, and_true] at e0
    subst e0
    have k1 : DataW.trod enc Try.prog w base spare held m 9 [c1] = some y1 := by simpa [Try.cells_string] using hf 1 _ rfl
    obtain ⟨a1, e1, rfl, w1⟩ := DataW.trod_string Try.underlying9 k1
    simp only [List.cons.injEq, and_true] at e1
    subst e1
    exact ⟨(a0, a1), rfl, rfl, ⟨w0, w1⟩⟩
set_option maxRecDepth 100000 in
theorem trodm_laws_Pair (q : Pt) (h : wf_laws_Pair q) : ∃ n, DataW.trod enc Try.prog w base spare held n 23 (aggT q).toList = some (dat_laws_Pair q, []) := by
  obtain ⟨a0, a1⟩ := q
  obtain ⟨w0, w1⟩ := h
  have k0 : DataW.trod enc Try.prog w base spare held 1 9 [.string a0] = some (.lit (.string a0.data.toList), []) := by simp [DataW.trod, Try.underlying9, w0]
  have k1 : DataW.trod enc Try.prog w base spare held 1 9 [.string a1] = some (.lit (.string a1.data.toList), []) := by simp [DataW.trod, Try.underlying9, w1]
  have t := trod_struct_mk (enc := enc) (w := w) (base := base) (spare := spare) (held := held) (n := 1) (cs := (aggT (a0, a1)).toList) (xs := [(.lit (.string a0.data.toList), []), (.lit (.string a1.data.toList), [])]) Try.underlying23 (by rw [Try.cells_laws_Pair]; rfl) (by simp [aggT, Try.cells_string, k0, k1])
  exact ⟨_, t⟩
theorem Try.cells_bool : Try.prog.cellsOf 4 = 1 := by kernel_rfl
theorem Try.cells_laws_PairPoint : Try.prog.cellsOf 25 = 5 := by kernel_rfl
theorem Try.info_lpq : (Try.prog.info? 25).map (·.size) = some 5 := by kernel_rfl
def dat_laws_PairPoint (q : Tq) : DataW H := .agg [.lit (.bool q.1), dat_laws_Pair q.2.1, dat_laws_Pair q.2.2]
def wf_laws_PairPoint (q : Tq) : Prop := wf_laws_Pair q.2.1 ∧ wf_laws_Pair q.2.2
set_option maxRecDepth 100000 in
theorem trod_laws_PairPoint {n : Nat} {cs : List Value} {y : DataW H × List MemPlace} (h : DataW.trod enc Try.prog w base spare held n 25 cs = some y) : ∃ q : Tq, cs = (tqT q).toList ∧ y = (dat_laws_PairPoint q, []) ∧ wf_laws_PairPoint q := by
  obtain ⟨xs, m, _, rfl, hl, hlen, hf⟩ := DataW.trod_struct Try.underlying25 h
  rw [Try.cells_laws_PairPoint] at hl
  match xs, hlen, cs, hl with
  | [y0, y1, y2], _, [c0, c1, c2, c3, c4], _ =>
    have k0 : DataW.trod enc Try.prog w base spare held m 4 [c0] = some y0 := by simpa [Try.cells_bool] using hf 0 _ rfl
    obtain ⟨a0, e0, rfl⟩ := DataW.trod_bool Try.underlying4 k0
    simp only [List.cons.injEq, and_true] at e0
    subst e0
    have k1 : DataW.trod enc Try.prog w base spare held m 23 [c1, c2] = some y1 := by simpa [Try.cells_laws_Pair] using hf 1 _ rfl
    obtain ⟨a1, e1, rfl, w1⟩ := trod_laws_Pair k1
    unfold aggT at e1
    simp only [List.cons.injEq, and_true] at e1
    obtain ⟨rfl, rfl⟩ := e1
    have k2 : DataW.trod enc Try.prog w base spare held m 23 [c3, c4] = some y2 := by simpa [Try.cells_laws_Pair] using hf 2 _ rfl
    obtain ⟨a2, e2, rfl, w2⟩ := trod_laws_Pair k2
    unfold aggT at e2
    simp only [List.cons.injEq, and_true] at e2
    obtain ⟨rfl, rfl⟩ := e2
    exact ⟨(a0, a1, a2), rfl, rfl, ⟨w1, w2⟩⟩
set_option maxRecDepth 100000 in
theorem trodm_laws_PairPoint (q : Tq) (h : wf_laws_PairPoint q) : ∃ n, DataW.trod enc Try.prog w base spare held n 25 (tqT q).toList = some (dat_laws_PairPoint q, []) := by
  obtain ⟨a0, a1, a2⟩ := q
  obtain ⟨w1, w2⟩ := h
  have k0 : DataW.trod enc Try.prog w base spare held 1 4 [.bool a0] = some (.lit (.bool a0), []) := by simp [DataW.trod, Try.underlying4]
  obtain ⟨n1, k1⟩ := trodm_laws_Pair (enc := enc) (w := w) (base := base) (spare := spare) (held := held) a1 w1
  unfold aggT at k1
  obtain ⟨n2, k2⟩ := trodm_laws_Pair (enc := enc) (w := w) (base := base) (spare := spare) (held := held) a2 w2
  unfold aggT at k2
  replace k0 := DataW.trod_le (show 1 ≤ 1 + n1 + n2 by omega) k0
  replace k1 := DataW.trod_le (show n1 ≤ 1 + n1 + n2 by omega) k1
  replace k2 := DataW.trod_le (show n2 ≤ 1 + n1 + n2 by omega) k2
  have t := trod_struct_mk (enc := enc) (w := w) (base := base) (spare := spare) (held := held) (n := 1 + n1 + n2) (cs := (tqT (a0, a1, a2)).toList) (xs := [(.lit (.bool a0), []), (dat_laws_Pair a1, []), (dat_laws_Pair a2, [])]) Try.underlying25 (by rw [Try.cells_laws_PairPoint]; rfl) (by simp [tqT, Try.cells_bool, Try.cells_laws_Pair, k0, k1, k2])
  exact ⟨_, t⟩
set_option maxRecDepth 100000 in
theorem open_laws_PairPoint {r : Reach} {b0 : Nat} {v : Value} {d : DataW H} {p : List MemPlace} (hv : Value.okWide Try.prog w r b0 25 v) (h : DataW.Trod enc Try.prog w base spare held 25 v d p) : ∃ q : Tq, v = .agg (tqT q) ∧ d = dat_laws_PairPoint q ∧ p = [] ∧ wf_laws_PairPoint q := by
  obtain ⟨cs, rfl, hsz⟩ := Go.WideShapes.okWide_struct Try.underlying25 hv
  obtain ⟨fuel, hf⟩ := h
  obtain ⟨q, e, e2, hw⟩ := trod_laws_PairPoint hf
  injection e2 with e3 e4
  exact ⟨q, congrArg Value.agg (Array.toList_inj.1 e), e3, e4, hw⟩
set_option maxRecDepth 100000 in
theorem shut_laws_PairPoint {q : Tq} (h : wf_laws_PairPoint q) : DataW.Trod enc Try.prog w base spare held 25 (.agg (tqT q)) (dat_laws_PairPoint q) [] := by
  obtain ⟨n, t⟩ := trodm_laws_PairPoint (enc := enc) (w := w) (base := base) (spare := spare) (held := held) q h
  exact ⟨n, t⟩
end
end Go.Proofs.Ytdajgcgliidjbaa

import Derived.Test.YtdajgcgliidjbaaGreatZQb
import Derived.ChangeArms
import Derived.ChangeSame
import Derived.WideShapes
set_option maxRecDepth 100000
namespace Go.Proofs.YtdajgcgliidjbaaGreat
open Go.RowKit Go.ChangeShapes Go.WideShapes Go.ChangeAt
section
variable {H : Type} {enc : TypeId × Value → H} {w : World} {base : Nat} {spare : Nat → Bool} {held : Bool}
theorem Tryz.cells_string : Tryz.prog.cellsOf 9 = 1 := by kernel_rfl
theorem Tryz.cells_laws_Pair : Tryz.prog.cellsOf 42 = 2 := by kernel_rfl
theorem Tryz.info_lpr : (Tryz.prog.info? 42).map (·.size) = some 2 := by kernel_rfl
def dat_laws_Pair (q : Pt) : DataW H := .agg [.lit (.string q.1.data.toList), .lit (.string q.2.data.toList)]
def wf_laws_Pair (q : Pt) : Prop := q.1.size ≤ maxLen ∧ q.2.size ≤ maxLen
theorem trod_laws_Pair {n : Nat} {cs : List Value} {y : DataW H × List MemPlace} (h : DataW.trod enc Tryz.prog w base spare held n 42 cs = some y) : ∃ q : Pt, cs = (aggT q).toList ∧ y = (dat_laws_Pair q, []) ∧ wf_laws_Pair q := by
 obtain ⟨xs, m, _, rfl, hl, hlen, hf⟩ := DataW.trod_struct Tryz.underlying42 h
 rw [Tryz.cells_laws_Pair] at hl
 match xs, hlen, cs, hl with
 | [y0, y1], _, [c0, c1], _ =>
  have k0 : DataW.trod enc Tryz.prog w base spare held m 9 [c0] = some y0 := by simpa [Tryz.cells_string] using hf 0 _ rfl
  obtain ⟨a0, e0, rfl, w0⟩ := DataW.trod_string Tryz.underlying9 k0
  simp only [List.cons.injEq, and_true] at e0
  subst e0
  have k1 : DataW.trod enc Tryz.prog w base spare held m 9 [c1] = some y1 := by simpa [Tryz.cells_string] using hf 1 _ rfl
  obtain ⟨a1, e1, rfl, w1⟩ := DataW.trod_string Tryz.underlying9 k1
  simp only [List.cons.injEq, and_true] at e1
  subst e1
  exact ⟨(a0, a1), rfl, rfl, ⟨w0, w1⟩⟩
theorem trodm_laws_Pair (q : Pt) (h : wf_laws_Pair q) : ∃ n, DataW.trod enc Tryz.prog w base spare held n 42 (aggT q).toList = some (dat_laws_Pair q, []) := by
 obtain ⟨a0, a1⟩ := q
 obtain ⟨w0, w1⟩ := h
 have k0 : DataW.trod enc Tryz.prog w base spare held 1 9 [.string a0] = some (.lit (.string a0.data.toList), []) := by simp [DataW.trod, Tryz.underlying9, w0]
 have k1 : DataW.trod enc Tryz.prog w base spare held 1 9 [.string a1] = some (.lit (.string a1.data.toList), []) := by simp [DataW.trod, Tryz.underlying9, w1]
 have t := trod_struct_mk (enc := enc) (w := w) (base := base) (spare := spare) (held := held) (n := 1) (cs := (aggT (a0, a1)).toList) (xs := [(.lit (.string a0.data.toList), []), (.lit (.string a1.data.toList), [])]) Tryz.underlying42 (by rw [Tryz.cells_laws_Pair]; rfl) (by simp [aggT, Tryz.cells_string, k0, k1])
 exact ⟨_, t⟩
theorem open_laws_Pair {r : Reach} {b0 : Nat} {v : Value} {d : DataW H} {p : List MemPlace} (hv : Value.okWide Tryz.prog w r b0 42 v) (h : DataW.Trod enc Tryz.prog w base spare held 42 v d p) : ∃ q : Pt, v = .agg (aggT q) ∧ d = dat_laws_Pair q ∧ p = [] ∧ wf_laws_Pair q := by
 obtain ⟨cs, rfl, hsz⟩ := Go.WideShapes.okWide_struct Tryz.underlying42 hv
 obtain ⟨fuel, hf⟩ := h
 obtain ⟨q, e, e2, hw⟩ := trod_laws_Pair hf
 injection e2 with e3 e4
 exact ⟨q, congrArg Value.agg (Array.toList_inj.1 e), e3, e4, hw⟩
theorem shut_laws_Pair {q : Pt} (h : wf_laws_Pair q) : DataW.Trod enc Tryz.prog w base spare held 42 (.agg (aggT q)) (dat_laws_Pair q) [] := by
 obtain ⟨n, t⟩ := trodm_laws_Pair (enc := enc) (w := w) (base := base) (spare := spare) (held := held) q h
 exact ⟨n, t⟩
end
end Go.Proofs.YtdajgcgliidjbaaGreat

import Derived.Test.YtdajgcgliidjbaaGreatUOps
import Derived.Test.YtdajgcgliidjbaaGreatILow
namespace Go.Proofs.YtdajgcgliidjbaaGreat
open Go.RowKit
theorem load_7 {ops : Array Oper} {rest : List Oper} {o : Oper} {a : Act} {w : World} {Q : Exit → Act → World → Prop} (hgd : o.guard = none) (x : Operand) (ho : o.op = .load 59 x) (g : Nat) (C : Array Value) (hs : C.size = 2)
  (hx : a.eval x = .pointer (some ⟨g, 0, none⟩)) (h : w.heap[g]? = some (.cells C 59 (0, 0))) (k : wpList Tryz.prog ops Q rest (a.put o.dst (.agg C)) w) : wpList Tryz.prog ops Q (o :: rest) a w :=
 wpList_load_row hgd _ x ho g hx _ _ _ _ h Tryz.underlying59 rfl (by rw [hs]; exact Tryz.info7) k
theorem store_7 {ops : Array Oper} {rest : List Oper} {o : Oper} {a : Act} {w : World} {Q : Exit → Act → World → Prop} (hgd : o.guard = none) (x y : Operand) (ho : o.op = .store 59 x y) (g : Nat) (C C' : Array Value)
  (hx : a.eval x = .pointer (some ⟨g, 0, none⟩)) (hy : a.eval y = .agg C') (h : w.heap[g]? = some (.cells C 59 (0, 0))) (hs : C'.size = 2) (hc : C.size = 2) (h1 : C'.all (·.oneCell') = true) (k : wpList Tryz.prog ops Q rest (a.put o.dst undef) (w.setRow g C')) : wpList Tryz.prog ops Q (o :: rest) a w :=
 wpList_plain hgd fun _ hK => wp_store_row _ x y ho g _ hx hy _ _ h (by rw [hs]; exact Tryz.info7) (hc.trans hs.symm) h1 (hK _ _ k)
theorem resP {w : World} {g : Nat} {C : Array Value} (hb : w.heap[g]? = some (.cells C 25 (0, 0))) (hs : C.size = 2) {fn : Func} {p q : Tmp} (hf : fn.results = #[.cell p 25, .tmp q]) (tmps : Array Value) (hp : tmps.getD p undef = .pointer (some ⟨g, 0, none⟩)) :
  (results fn tmps).run Tryz.prog w = .ok (.tuple #[.agg C, tmps.getD q undef]) w := by
 have e1 := run_loadVar_row (P := Tryz.prog) w g _ 25 _ _ _ hb Tryz.underlying25 rfl (by rw [hs]; exact Tryz.infoP)
 have hp' : tmps[p]?.getD undef = .pointer (some ⟨g, 0, none⟩) := by simpa using hp
 simp [results, hf, hp', asAddr, e1]
def inv7 (x : Pn) (n : Nat) : Pn := if Nat.gcd n (normP n x) = 1 then invP n x (invN (normP n x) n) else (0, 0)
end Go.Proofs.YtdajgcgliidjbaaGreat
namespace Go.Proofs.YtdajgcgliidjbaaGreat
open Go.RowKit
theorem inv7_in {x : Pn} {n : Nat} (h : 0 < n) : InP2 n (inv7 x n) := by
 unfold inv7
 split
 ·exact invP_in h _ _
 ·exact zero_in h
end Go.Proofs.YtdajgcgliidjbaaGreat
namespace Go.Proofs.YtdajgcgliidjbaaGreat
open Go.RowKit
theorem PairX.setRow {w : World} {v : Value} {x : Pn} {g : Nat} {C C' : Array Value} {t : TypeId} (h : PairX w v x) (hg : w.heap[g]? = some (.cells C t (0, 0))) (ht : t ≠ 3) : PairX (w.setRow g C') v x := by
 obtain ⟨a, b, e, h1, h2⟩ := h
 exact ⟨a, b, e, h1.setRow hg ht, h2.setRow hg ht⟩
end Go.Proofs.YtdajgcgliidjbaaGreat

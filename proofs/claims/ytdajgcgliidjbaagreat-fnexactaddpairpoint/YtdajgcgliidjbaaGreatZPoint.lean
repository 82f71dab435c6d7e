import Derived.Test.YtdajgcgliidjbaaGreatYSpec
import Derived.Test.YtdajgcgliidjbaaGreatEPair
import Derived.Test.YtdajgcgliidjbaaGreatXPairs
import Derived.Deep.MidRow
import Derived.LoopN
set_option maxRecDepth 8000
set_option maxHeartbeats 4000000
namespace Go.Proofs.YtdajgcgliidjbaaGreat
open Go.RowKit
def ptC (z : Bool) (xa xb ya yb : Value) : Array Value := #[.bool z, xa, xb, ya, yb]
theorem Tryz.infoPt10 : (Tryz.prog.info? 61).map (·.size) = some 5 := by kernel_rfl
theorem Tryz.parts10 : (structParts Tryz.prog 61).map (fun q => (q.1.cells.toList, q.2)) = some ([.bool false, .slice none 0 0, .slice none 0 0, .slice none 0 0, .slice none 0 0], [(0, 1), (1, 2), (3, 2)]) := by kernel_rfl
theorem bool_load {w : World} {g k : Nat} {b : Bool} (h : w.cell? ⟨g, k, none⟩ = some (.bool b)) : (Instr.loadAt 4 (.pointer (some ⟨g, k, none⟩))).run Tryz.prog w = .ok (.bool b) w := by
 go_simp
theorem mid_load7 {w : World} {g o : Nat} {C : Array Value} {t : TypeId} {a b : Value} (h : w.heap[g]? = some (.cells C t (0, 0))) (h0 : C[o]? = some a) (h1 : C[o + 1]? = some b) : (Instr.loadAt 59 (.pointer (some ⟨g, o, none⟩))).run Tryz.prog w = .ok (.agg #[a, b]) w := by
 have e := run_loadAt_mid (P := Tryz.prog) w g o 59 [a, b] _ (fun j v hv => by
  rw [cell_of_row w g (o + j) _ _ _ h]
  match j with
  | 0 => exact h0.trans (by simpa using hv)
  | 1 => exact h1.trans (by simpa using hv)
  | j + 2 => simp at hv) Tryz.underlying59 rfl Tryz.info7
 simpa using e
structure PtAt (w : World) (g : Nat) (z : Bool) (xa xb ya yb : Value) : Prop where
 z : (Instr.loadAt 4 (.pointer (some ⟨g, 0, none⟩))).run Tryz.prog w = .ok (.bool z) w
 x : (Instr.loadAt 59 (.pointer (some ⟨g, 1, none⟩))).run Tryz.prog w = .ok (.agg #[xa, xb]) w
 y : (Instr.loadAt 59 (.pointer (some ⟨g, 3, none⟩))).run Tryz.prog w = .ok (.agg #[ya, yb]) w
theorem pt_at {w : World} {g : Nat} {z : Bool} {xa xb ya yb : Value} (h : w.heap[g]? = some (.cells (ptC z xa xb ya yb) 61 (0, 0))) : PtAt w g z xa xb ya yb :=
 ⟨bool_load ((cell_of_row w g 0 _ _ _ h).trans rfl), mid_load7 h rfl rfl, mid_load7 h rfl rfl⟩
def PtX (w : World) (v : Value) : P2 → Prop
 | none => ∃ A1 n1 c1 A2 n2 c2 A3 n3 c3 A4 n4 c4, v = .agg (ptC true (.slice A1 n1 c1) (.slice A2 n2 c2) (.slice A3 n3 c3) (.slice A4 n4 c4))
 | some A => ∃ xa xb ya yb, v = .agg (ptC false xa xb ya yb) ∧ RowX w xa A.1.1 ∧ RowX w xb A.1.2 ∧ RowX w ya A.2.1 ∧ RowX w yb A.2.2
def PtTo (Q : P2) (w : World) (e : Ending) (w' : World) : Prop := ∃ v, e = .returned v ∧ PtX w' v Q ∧ Below w.heap.size w w'
theorem PtX.below {w w' : World} {v : Value} {Q : P2} (h : PtX w v Q) (b : Below w.heap.size w w') : PtX w' v Q := by
 cases Q with
 | none => exact h
 | some A =>
  obtain ⟨xa, xb, ya, yb, e, h1, h2, h3, h4⟩ := h
  exact ⟨xa, xb, ya, yb, e, h1.below b, h2.below b, h3.below b, h4.below b⟩
theorem PtX.cells {w : World} {v : Value} {Q : P2} (h : PtX w v Q) : ∃ A1 n1 c1 A2 n2 c2 A3 n3 c3 A4 n4 c4, v = .agg (ptC Q.isNone (.slice A1 n1 c1) (.slice A2 n2 c2) (.slice A3 n3 c3) (.slice A4 n4 c4)) := by
 cases Q with
 | none => exact h
 | some A =>
  obtain ⟨xa, xb, ya, yb, rfl, h1, h2, h3, h4⟩ := h
  obtain ⟨A1, n1, c1, rfl⟩ := h1.shape
  obtain ⟨A2, n2, c2, rfl⟩ := h2.shape
  obtain ⟨A3, n3, c3, rfl⟩ := h3.shape
  obtain ⟨A4, n4, c4, rfl⟩ := h4.shape
  exact ⟨A1, n1, c1, A2, n2, c2, A3, n3, c3, A4, n4, c4, rfl⟩
theorem PtX.pairs {w : World} {z : Bool} {xa xb ya yb : Value} {A : Pn × Pn} (h : PtX w (.agg (ptC z xa xb ya yb)) (some A)) : z = false ∧ PairX w (.agg #[xa, xb]) A.1 ∧ PairX w (.agg #[ya, yb]) A.2 := by
 obtain ⟨a, b, c, d, e, h1, h2, h3, h4⟩ := h
 simp only [Value.agg.injEq, ptC, Array.mk.injEq, List.cons.injEq, Value.bool.injEq] at e
 obtain ⟨e0, e1, e2, e3, e4, _⟩ := e
 subst e0 e1 e2 e3 e4
 exact ⟨rfl, ⟨_, _, rfl, h1, h2⟩, ⟨_, _, rfl, h3, h4⟩⟩
theorem PtX.of {w : World} {xa xb ya yb : Value} {A : Pn × Pn} (hx : PairX w (.agg #[xa, xb]) A.1) (hy : PairX w (.agg #[ya, yb]) A.2) : PtX w (.agg (ptC false xa xb ya yb)) (some A) := by
 obtain ⟨a, b, e, h1, h2⟩ := hx
 obtain ⟨c, d, e', h3, h4⟩ := hy
 simp only [Value.agg.injEq, Array.mk.injEq, List.cons.injEq] at e e'
 obtain ⟨rfl, rfl, _⟩ := e
 obtain ⟨rfl, rfl, _⟩ := e'
 exact ⟨_, _, _, _, rfl, h1, h2, h3, h4⟩
theorem built_10 (z : Bool) (xa xb ya yb : Value) : Tryz.prog.built 61 [(0, .bool z), (1, .agg #[xa, xb]), (2, .agg #[ya, yb])] = some (ptC z xa xb ya yb) := by
 cases hq : structParts Tryz.prog 61 with
 | none => have e := Tryz.parts10; rw [hq] at e; cases e
 | some q =>
  obtain ⟨z0, pl⟩ := q
  have e := Tryz.parts10
  rw [hq] at e
  simp only [Option.map_some, Option.some.injEq, Prod.mk.injEq] at e
  obtain ⟨e1, rfl⟩ := e
  rw [built_parts hq]
  have ez : z0.cells = #[] ++ #[.bool false] ++ #[.slice none 0 0, .slice none 0 0, .slice none 0 0, .slice none 0 0] := Array.ext' (by rw [e1]; rfl)
  rw [ez, fill_step (R := #[.bool z]) (off := 0) (n := 1) rfl rfl rfl rfl rfl]
  rw [show (#[] ++ #[.bool z] ++ #[.slice none 0 0, .slice none 0 0, .slice none 0 0, .slice none 0 0] : Array Value) = #[.bool z] ++ #[.slice none 0 0, .slice none 0 0] ++ #[.slice none 0 0, .slice none 0 0] from rfl, fill_step (R := #[xa, xb]) (off := 1) (n := 2) rfl rfl rfl rfl rfl]
  rw [show (#[.bool z] ++ #[xa, xb] ++ #[.slice none 0 0, .slice none 0 0] : Array Value) = #[.bool z, xa, xb] ++ #[.slice none 0 0, .slice none 0 0] ++ #[] from rfl, fill_step (R := #[ya, yb]) (off := 3) (n := 2) rfl rfl rfl rfl rfl]
  simp [Instr.fill, ptC]
theorem built_10xy (xa xb ya yb : Value) : Tryz.prog.built 61 [(1, .agg #[xa, xb]), (2, .agg #[ya, yb])] = some (ptC false xa xb ya yb) := by
 cases hq : structParts Tryz.prog 61 with
 | none => have e := Tryz.parts10; rw [hq] at e; cases e
 | some q =>
  obtain ⟨z0, pl⟩ := q
  have e := Tryz.parts10
  rw [hq] at e
  simp only [Option.map_some, Option.some.injEq, Prod.mk.injEq] at e
  obtain ⟨e1, rfl⟩ := e
  rw [built_parts hq]
  have ez : z0.cells = #[.bool false] ++ #[.slice none 0 0, .slice none 0 0] ++ #[.slice none 0 0, .slice none 0 0] := Array.ext' (by rw [e1]; rfl)
  rw [ez, fill_step (R := #[xa, xb]) (off := 1) (n := 2) rfl rfl rfl rfl rfl]
  rw [show (#[.bool false] ++ #[xa, xb] ++ #[.slice none 0 0, .slice none 0 0] : Array Value) = #[.bool false, xa, xb] ++ #[.slice none 0 0, .slice none 0 0] ++ #[] from rfl, fill_step (R := #[ya, yb]) (off := 3) (n := 2) rfl rfl rfl rfl rfl]
  simp [Instr.fill, ptC]
end Go.Proofs.YtdajgcgliidjbaaGreat
namespace Go.Proofs.YtdajgcgliidjbaaGreat
open Go.RowKit
theorem PairX.q {w : World} {v : Value} {x : Pn} (h : PairX w v x) : ∃ q : Array Value, v = .agg q := by
 obtain ⟨a, b, rfl, _⟩ := h
 exact ⟨_, rfl⟩
theorem Begun.more {w w' : World} {L : List (Nat × Array Value × TypeId)} {o g : Nat} {Z C : Array Value} {t tC : TypeId} (h : Begun w w' L o Z t) (hg : w'.heap[g]? = some (.cells C tC (0, 0))) (ne : g ≠ o) : Begun w w' ((g, C, tC) :: L) o Z t :=
 ⟨h.h.cons hg, h.out, fun q hq => by
  rcases List.mem_cons.1 hq with rfl | hq
  ·exact ne
  ·exact h.ne q hq, h.b⟩
theorem zero_7 (w : World) : (zeroValue 59).run Tryz.prog w = .ok (.agg #[.slice none 0 0, .slice none 0 0]) w := by kernel_rfl
theorem Begun.sub {w w' : World} {L L' : List (Nat × Array Value × TypeId)} {o : Nat} {Z : Array Value} {t : TypeId} (h : Begun w w' L o Z t) (hs : ∀ q ∈ L', q ∈ L) : Begun w w' L' o Z t := ⟨fun q hq => h.h q (hs q hq), h.out, fun q hq => h.ne q (hs q hq), h.b⟩
end Go.Proofs.YtdajgcgliidjbaaGreat
namespace Go.Proofs.YtdajgcgliidjbaaGreat
open Go.RowKit
theorem beq_nat {n x : Nat} (h : n = 0 ↔ x = 0) : (((n : Nat) : Int) == 0) = decide (x = 0) := by
 by_cases hx : x = 0
 ·rw [h.2 hx, decide_eq_true hx]; rfl
 ·have hn : n ≠ 0 := fun e => hx (h.1 e)
  rw [decide_eq_false hx]
  simpa using hn
theorem pn_zero (x : Pn) : decide (x = (0, 0)) = (decide (x.1 = 0) && decide (x.2 = 0)) := by
 by_cases h1 : x.1 = 0
 ·by_cases h2 : x.2 = 0
  ·rw [decide_eq_true h1, decide_eq_true h2, decide_eq_true (Prod.ext h1 h2)]; rfl
  ·rw [decide_eq_false h2, decide_eq_false (fun e => h2 (congrArg Prod.snd e)), Bool.and_false]
 ·rw [decide_eq_false h1, decide_eq_false (fun e => h1 (congrArg Prod.fst e)), Bool.false_and]
theorem pn_same (x y : Pn) : decide (x = y) = (decide (x.1 = y.1) && decide (x.2 = y.2)) := by
 by_cases h1 : x.1 = y.1
 ·by_cases h2 : x.2 = y.2
  ·rw [decide_eq_true h1, decide_eq_true h2, decide_eq_true (Prod.ext h1 h2)]; rfl
  ·rw [decide_eq_false h2, decide_eq_false (fun e => h2 (congrArg Prod.snd e)), Bool.and_false]
 ·rw [decide_eq_false h1, decide_eq_false (fun e => h1 (congrArg Prod.fst e)), Bool.false_and]
theorem cmp_zero (x y : Nat) : (cmpI x y == 0) = decide (x = y) := by
 unfold cmpI
 rcases Nat.lt_trichotomy x y with h | h | h
 ·rw [if_pos h, decide_eq_false (by omega)]; rfl
 ·rw [if_neg (by omega), if_pos h, decide_eq_true h]; rfl
 ·rw [if_neg (by omega), if_neg (by omega), decide_eq_false (by omega)]; rfl
theorem lzero7_x {w : World} {v : Value} {x : Pn} (h : PairX w v x) : Calls Tryz.prog 83 #[v] w fun e w' => e = .returned (.bool (decide (x = (0, 0)))) ∧ Below w.heap.size w w' := by
 obtain ⟨a, b, rfl, h1, h2⟩ := h
 obtain ⟨A1, n1, c1, rfl, k1, _⟩ := h1.form
 obtain ⟨A2, n2, c2, rfl, k2, _⟩ := h2.form
 have e1 := beq_nat k1
 have e2 := beq_nat k2
 obtain ⟨q, hq⟩ : ∃ q : Array Value, #[.slice A1 n1 c1, .slice A2 n2 c2] = q := ⟨_, rfl⟩
 have HN := Lib.hid (heap_alloc_new w (.cells q 59))
 have HB := Lib.hid ((Below.refl w.heap.size w).alloc (Nat.le_refl _) (.cells q 59))
 have HQ : Hid (∀ (w' : World) (g : Nat), w'.heap[g]? = some (.cells q 59 (0, 0)) → w'.cell? ⟨g, 0, none⟩ = some (.slice A1 n1 c1) ∧ w'.cell? ⟨g, 1, none⟩ = some (.slice A2 n2 c2)) := fun w' g hg => by
  subst hq
  exact ⟨(cell_of_row w' g 0 _ _ _ hg).trans rfl, (cell_of_row w' g 1 _ _ _ hg).trans rfl⟩
 rw [hq, pn_zero]
 generalize decide (x.1 = 0) = b1 at *
 generalize decide (x.2 = 0) = b2 at *
 clear h1 h2 k1 k2 hq
 cases b1 <;> cases b2 <;> (
  go_enter Tryz.func83, Tryz.ntmps83
  go_upto_region 1 with (fail)
  generalize w.alloc _ = w0 at *
  obtain ⟨d1, d2⟩ := HQ.out _ _ HN.out
  go_wp2
  go_ret
  exact ⟨rfl, HB.out⟩)
theorem lsame7_x {w : World} {u v : Value} {x y : Pn} (h : PairX w u x) (k : PairX w v y) (hx : x.1 < SM ∧ x.2 < SM) : Calls Tryz.prog 62 #[u, v] w fun e w' => e = .returned (.bool (decide (x = y))) ∧ Below w.heap.size w w' := by
 have HS0 := Lib.hid hx
 obtain ⟨a, b, rfl, h1, h2⟩ := h
 obtain ⟨c, d, rfl, k1, k2⟩ := k
 have H1 := Lib.hid (And.intro h1 k1)
 have H2 := Lib.hid (And.intro h2 k2)
 obtain ⟨A1, n1, c1, rfl⟩ := h1.shape
 obtain ⟨A2, n2, c2, rfl⟩ := h2.shape
 obtain ⟨A3, n3, c3, rfl⟩ := k1.shape
 obtain ⟨A4, n4, c4, rfl⟩ := k2.shape
 obtain ⟨q, hq⟩ : ∃ q : Array Value, #[.slice A1 n1 c1, .slice A2 n2 c2] = q := ⟨_, rfl⟩
 obtain ⟨r, hr⟩ : ∃ q : Array Value, #[.slice A3 n3 c3, .slice A4 n4 c4] = q := ⟨_, rfl⟩
 have HQ : Hid (∀ (w' : World) (g : Nat), w'.heap[g]? = some (.cells q 59 (0, 0)) → w'.cell? ⟨g, 0, none⟩ = some (.slice A1 n1 c1) ∧ w'.cell? ⟨g, 1, none⟩ = some (.slice A2 n2 c2)) := fun w' g hg => by
  subst hq
  exact ⟨(cell_of_row w' g 0 _ _ _ hg).trans rfl, (cell_of_row w' g 1 _ _ _ hg).trans rfl⟩
 have HR : Hid (∀ (w' : World) (g : Nat), w'.heap[g]? = some (.cells r 59 (0, 0)) → w'.cell? ⟨g, 0, none⟩ = some (.slice A3 n3 c3) ∧ w'.cell? ⟨g, 1, none⟩ = some (.slice A4 n4 c4)) := fun w' g hg => by
  subst hr
  exact ⟨(cell_of_row w' g 0 _ _ _ hg).trans rfl, (cell_of_row w' g 1 _ _ _ hg).trans rfl⟩
 have HG0 := Lib.hid (stand2 w q r 59 59)
 have e1 := cmp_zero x.1 y.1
 have e2 := cmp_zero x.2 y.2
 rw [hq, hr, pn_same]
 generalize decide (x.1 = y.1) = b1 at *
 generalize decide (x.2 = y.2) = b2 at *
 clear h1 h2 k1 k2 hq hr hx
 go_enter Tryz.func62, Tryz.ntmps62
 go_upto_region 1 with (fail)
 generalize (w.alloc _).alloc _ = w0 at *
 obtain ⟨d1, d2⟩ := HQ.out _ _ (show _ = some (Obj.cells q 59 (0, 0)) from HG0.out.h _ (.tail _ (.head _)))
 obtain ⟨d3, d4⟩ := HR.out _ _ (show _ = some (Obj.cells r 59 (0, 0)) from HG0.out.h _ (.head _))
 go_wp2_with fail
 refine (cmp_x (H1.out.1.below HG0.out.b) (H1.out.2.below HG0.out.b) HS0.out.1).mono ?_
 rintro e w1 ⟨rfl, bw1⟩
 have HG1 := Lib.hid (HG0.out.on bw1)
 clear d1 d2 d3 d4 HG0 H1 bw1
 generalize cmpI x.1 y.1 = k1 at *
 cases b1 with
 | false =>
  go_wp2
  go_ret
  exact ⟨rfl, HG1.out.b⟩
 | true =>
  obtain ⟨d1, d2⟩ := HQ.out _ _ (show _ = some (Obj.cells q 59 (0, 0)) from HG1.out.h _ (.tail _ (.head _)))
  obtain ⟨d3, d4⟩ := HR.out _ _ (show _ = some (Obj.cells r 59 (0, 0)) from HG1.out.h _ (.head _))
  go_wp2_with fail
  refine (cmp_x (H2.out.1.below HG1.out.b) (H2.out.2.below HG1.out.b) HS0.out.2).mono ?_
  rintro e w2 ⟨rfl, bw2⟩
  have HG2 := Lib.hid (HG1.out.on bw2)
  clear d1 d2 d3 d4 HG1 H2 bw2
  generalize cmpI x.2 y.2 = k2 at *
  cases b2 <;> (
   go_wp2
   go_ret
   exact ⟨rfl, HG2.out.b⟩)
theorem pt_z {w : World} {g : Nat} {z : Bool} {xa xb ya yb : Value} (h : w.heap[g]? = some (.cells (ptC z xa xb ya yb) 61 (0, 0))) : w.cell? ⟨g, 0, none⟩ = some (.bool z) := (cell_of_row w g 0 _ _ _ h).trans rfl
theorem on10_x {w : World} {vb vp : Value} {z : Bool} {A1 A2 A3 A4 : Option Addr} {n1 c1 n2 c2 n3 c3 n4 c4 : Nat} {x y b : Pn} {n : Nat} (hx : PairX w (.agg #[.slice A1 n1 c1, .slice A2 n2 c2]) x) (hy : PairX w (.agg #[.slice A3 n3 c3, .slice A4 n4 c4]) y) (hb : PairX w vb b) (hp : RowX w vp n) (ix : InP2 n x) (iy : InP2 n y) (ib : InP2 n b) (hn : n < GB) :
  Calls Tryz.prog 31 #[.agg (ptC z (.slice A1 n1 c1) (.slice A2 n2 c2) (.slice A3 n3 c3) (.slice A4 n4 c4)), vb, vp] w fun e w' => e = .returned (.bool (decide (mulP n y y = rightP n b x))) ∧ Below w.heap.size w w' := by
 have h0 : 0 < n := Nat.lt_of_le_of_lt (Nat.zero_le _) ix.1
 have HX := Lib.hid hx
 have HY := Lib.hid hy
 have HBx := Lib.hid hb
 have HP := Lib.hid hp
 have HI := Lib.hid (And.intro ix (And.intro iy (And.intro ib (And.intro hn h0))))
 have im := mulP_in h0 y y
 have HM := Lib.hid (And.intro (sm_one (Nat.lt_trans im.1 hn)) (sm_one (Nat.lt_trans im.2 hn)))
 obtain ⟨ba, bb, rfl, k1, k2⟩ := hb
 obtain ⟨pA, pn, pc, rfl⟩ := hp.shape
 obtain ⟨qb, hqb⟩ : ∃ q : Array Value, #[ba, bb] = q := ⟨_, rfl⟩
 have HQ := Lib.hid (show qb.size = 2 by rw [← hqb]; rfl)
 rw [hqb] at HBx
 rw [hqb]
 obtain ⟨bo, hbo⟩ : ∃ o, decide (mulP n y y = rightP n b x) = o := ⟨_, rfl⟩
 have HBo := Lib.hid hbo
 rw [hbo]
 clear hx hy hp ix iy ib hn h0 im k1 k2 hqb hbo
 have HG0 := Lib.hid (stand2 w (ptC z (.slice A1 n1 c1) (.slice A2 n2 c2) (.slice A3 n3 c3) (.slice A4 n4 c4)) qb 61 59).drew
 have HS0 := Lib.hid HG0.out.h
 have FX := Lib.hid (show ∀ w', Held w' (((w.heap.size + 1), qb, 59) :: (w.heap.size, ptC z (.slice A1 n1 c1) (.slice A2 n2 c2) (.slice A3 n3 c3) (.slice A4 n4 c4), 61) :: []) → (Instr.loadAt 59 (.pointer (some ⟨w.heap.size, 1, none⟩))).run Tryz.prog w' = .ok (.agg #[.slice A1 n1 c1, .slice A2 n2 c2]) w' from fun w' hw => (pt_at (show _ = some (Obj.cells (ptC z (.slice A1 n1 c1) (.slice A2 n2 c2) (.slice A3 n3 c3) (.slice A4 n4 c4)) 61 (0, 0)) from hw (w.heap.size, ptC z (.slice A1 n1 c1) (.slice A2 n2 c2) (.slice A3 n3 c3) (.slice A4 n4 c4), 61) (.tail _ (.head _)))).x)
 have FY := Lib.hid (show ∀ w', Held w' (((w.heap.size + 1), qb, 59) :: (w.heap.size, ptC z (.slice A1 n1 c1) (.slice A2 n2 c2) (.slice A3 n3 c3) (.slice A4 n4 c4), 61) :: []) → (Instr.loadAt 59 (.pointer (some ⟨w.heap.size, 3, none⟩))).run Tryz.prog w' = .ok (.agg #[.slice A3 n3 c3, .slice A4 n4 c4]) w' from fun w' hw => (pt_at (show _ = some (Obj.cells (ptC z (.slice A1 n1 c1) (.slice A2 n2 c2) (.slice A3 n3 c3) (.slice A4 n4 c4)) 61 (0, 0)) from hw (w.heap.size, ptC z (.slice A1 n1 c1) (.slice A2 n2 c2) (.slice A3 n3 c3) (.slice A4 n4 c4), 61) (.tail _ (.head _)))).y)
 have FB := Lib.hid (show ∀ w', Held w' (((w.heap.size + 1), qb, 59) :: (w.heap.size, ptC z (.slice A1 n1 c1) (.slice A2 n2 c2) (.slice A3 n3 c3) (.slice A4 n4 c4), 61) :: []) → (Instr.loadAt 59 (.pointer (some ⟨w.heap.size + 1, 0, none⟩))).run Tryz.prog w' = .ok (.agg qb) w' from fun w' hw => cells_load (show _ = some (Obj.cells (qb) 59 (0, 0)) from hw ((w.heap.size + 1), qb, 59) (.head _)) Tryz.underlying59 rfl (by rw [HQ.out]; exact Tryz.info7))
 go_enter Tryz.func31, Tryz.ntmps31
 go_wp2_with fail
 generalize (w.alloc _).alloc _ = w0 at *
 refine sq_gok (S := fun w' => Held w' (((w.heap.size + 1), qb, 59) :: (w.heap.size, ptC z (.slice A1 n1 c1) (.slice A2 n2 c2) (.slice A3 n3 c3) (.slice A4 n4 c4), 61) :: [])) [(true, 0), (true, 1), (true, 2), (true, 3), (true, 4), (true, 6), (true, 7), (true, 8), (true, 9), (false, 5), (false, 10), (false, 11), (true, 12)] HS0.out ?_
 refine sq_psk [(0, .pointer (some ⟨w.heap.size, 3, none⟩))] ?_
 refine sq_ldk (some 8) FY.out ?_
 refine sq_psk [(2, .pointer (some ⟨w.heap.size, 3, none⟩))] ?_
 refine sq_ldk (some 10) FY.out ?_
 refine sq_psk [(4, .slice pA pn pc), (6, .pointer (some ⟨w.heap.size, 1, none⟩))] ?_
 refine sq_ldk (some 14) FX.out ?_
 refine sq_ldk (some 15) FB.out ?_
 refine sq_psk [(9, .slice pA pn pc)] ?_
 refine sq_ck (some 12) Tryz.func63 (lmul7_x (HY.out.below HG0.out.b) (HY.out.below HG0.out.b) (HP.out.below HG0.out.b) HI.out.2.1 HI.out.2.1 HI.out.2.2.2.1) ?_
 rintro e v1 ⟨v1, rfl, hv1, bw1⟩
 have R1 := Lib.hid hv1
 have HG1 := Lib.hid (HG0.out.on bw1)
 have HS1 := Lib.hid HG1.out.h
 refine ⟨_, rfl, HS1.out, ?_⟩
 refine sq_ck (some 17) Tryz.func64 (right_x (HX.out.below HG1.out.b) (HBx.out.below HG1.out.b) (HP.out.below HG1.out.b) HI.out.1 HI.out.2.2.1 HI.out.2.2.2.1) ?_
 rintro e v2 ⟨v2, rfl, hv2, bw2⟩
 have R2 := Lib.hid hv2
 have HG2 := Lib.hid (HG1.out.on bw2)
 have HS2 := Lib.hid HG2.out.h
 refine ⟨_, rfl, HS2.out, ?_⟩
 refine sq_ck (some 18) Tryz.func62 (lsame7_x (R1.out.below bw2) R2.out HM.out) ?_
 rintro e v3 ⟨he, bw3⟩
 rw [HBo.out] at he
 subst he
 have HG3 := Lib.hid (HG2.out.on bw3)
 have HS3 := Lib.hid HG3.out.h
 refine ⟨_, rfl, HS3.out, ?_⟩
 refine sq_psk [(12, .bool bo)] ?_
 refine sq_done ?_
 refine ‹∀ a w, Code.wp _ Code.ret _ a w → _› _ _ ?_
 refine wp_ret ?_
 exact ret_at (v := .bool bo) Tryz.results31 (by kernel_rfl) (by kernel_rfl) ⟨rfl, HG3.out.b⟩
theorem PairX.setRow7 {w : World} {v : Value} {x : Pn} {g : Nat} {C C' : Array Value} (h : PairX w v x) (hg : w.heap[g]? = some (.cells C 61 (0, 0))) : PairX (w.setRow g C') v x := by
 obtain ⟨a, b, rfl, h1, h2⟩ := h
 exact ⟨a, b, rfl, RowX.setRow h1 hg (by decide), RowX.setRow h2 hg (by decide)⟩
theorem load_mid {ops : Array Oper} {rest : List Oper} {o : Oper} {a : Act} {w : World} {Q : Exit → Act → World → Prop} (hgd : o.guard = none) (x : Operand) (ho : o.op = .load 59 x) (g k : Nat) (C : Array Value) (u v : Value)
  (hx : a.eval x = .pointer (some ⟨g, k, none⟩)) {t : TypeId} (h : w.heap[g]? = some (.cells C t (0, 0))) (h0 : C[k]? = some u) (h1 : C[k + 1]? = some v) (r : wpList Tryz.prog ops Q rest (a.put o.dst (.agg #[u, v])) w) : wpList Tryz.prog ops Q (o :: rest) a w := by
 refine wpList_plain hgd fun K hK => ?_
 unfold Oper.wp execOp
 simp only [ho, hx]
 have e := mid_load7 h h0 h1
 simp [e]
 exact hK _ _ r
def InO (n : Nat) : P2 → Prop
 | none => True
 | some A => InP2 n A.1 ∧ InP2 n A.2
end Go.Proofs.YtdajgcgliidjbaaGreat
namespace Go.Proofs.YtdajgcgliidjbaaGreat
open Go.RowKit
theorem nil_text {s : ByteArray} (h : s.toList.isEmpty = true) : s = ⟨#[]⟩ := by
 have h2 := List.isEmpty_iff.1 h
 rw [ByteArray.toList_eq] at h2
 exact ByteArray.ext (Array.toList_eq_nil_iff.1 h2)
theorem val_in {p : Nat} {b : Pn} {Q : P2} (h : onP p b Q) : InO p Q := by
 cases Q with
 | none => trivial
 | some A => exact ⟨h.1, h.2.1⟩
end Go.Proofs.YtdajgcgliidjbaaGreat

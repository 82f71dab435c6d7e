import Derived.Test.YtdajgcgliidjbaaYSpec
import Derived.Test.YtdajgcgliidjbaaEPair
import Derived.Test.YtdajgcgliidjbaaXPairs
import Derived.Deep.MidRow
import Derived.LoopN
/-
  Points of spec: a point in a block, and spec's l07Zero, l07Same, l10In, l10Out.
-/
namespace Go.Proofs.Ytdajgcgliidjbaa
open Go.RowKit
def ptC (z : Bool) (xa xb ya yb : Value) : Array Value := #[.bool z, xa, xb, ya, yb]
theorem Try.infoPt10 : (Try.prog.info? 49).map (·.size) = some 5 := by kernel_rfl
theorem Try.parts10 : (structParts Try.prog 49).map (fun q => (q.1.cells.toList, q.2)) = some ([.bool false, .slice none 0 0, .slice none 0 0, .slice none 0 0, .slice none 0 0], [(0, 1), (1, 2), (3, 2)]) := by kernel_rfl
theorem row_load {w : World} {g k : Nat} {A : Option Addr} {n c : Nat} (h : w.cell? ⟨g, k, none⟩ = some (.slice A n c)) : (Instr.loadAt 45 (.pointer (some ⟨g, k, none⟩))).run Try.prog w = .ok (.slice A n c) w := by
  go_simp
theorem bool_load {w : World} {g k : Nat} {b : Bool} (h : w.cell? ⟨g, k, none⟩ = some (.bool b)) : (Instr.loadAt 4 (.pointer (some ⟨g, k, none⟩))).run Try.prog w = .ok (.bool b) w := by
  go_simp
theorem mid_load7 {w : World} {g o : Nat} {C : Array Value} {t : TypeId} {a b : Value} (h : w.heap[g]? = some (.cells C t (0, 0))) (h0 : C[o]? = some a) (h1 : C[o + 1]? = some b) : (Instr.loadAt 47 (.pointer (some ⟨g, o, none⟩))).run Try.prog w = .ok (.agg #[a, b]) w := by
  have e := run_loadAt_mid (P := Try.prog) w g o 47 [a, b] _ (fun j v hv => by
    rw [cell_of_row w g (o + j) _ _ _ h]
    match j with
    | 0 => exact h0.trans (by simpa using hv)
    | 1 => exact h1.trans (by simpa using hv)
    | j + 2 => simp at hv) Try.underlying47 rfl Try.info7
  simpa using e
structure PtAt (w : World) (g : Nat) (z : Bool) (xa xb ya yb : Value) : Prop where
  z : (Instr.loadAt 4 (.pointer (some ⟨g, 0, none⟩))).run Try.prog w = .ok (.bool z) w
  x : (Instr.loadAt 47 (.pointer (some ⟨g, 1, none⟩))).run Try.prog w = .ok (.agg #[xa, xb]) w
  y : (Instr.loadAt 47 (.pointer (some ⟨g, 3, none⟩))).run Try.prog w = .ok (.agg #[ya, yb]) w
theorem pt_at {w : World} {g : Nat} {z : Bool} {xa xb ya yb : Value} (h : w.heap[g]? = some (.cells (ptC z xa xb ya yb) 49 (0, 0))) : PtAt w g z xa xb ya yb :=
  ⟨bool_load ((cell_of_row w g 0 _ _ _ h).trans rfl), mid_load7 h rfl rfl, mid_load7 h rfl rfl⟩
def PtX (w : World) (v : Value) : P2 → Prop
  | none => ∃ A1 n1 c1 A2 n2 c2 A3 n3 c3 A4 n4 c4, v = .agg (ptC true (.slice A1 n1 c1) (.slice A2 n2 c2) (.slice A3 n3 c3) (.slice A4 n4 c4))
  | some A => ∃ xa xb ya yb, v = .agg (ptC false xa xb ya yb) ∧ RowX w xa A.1.1 ∧ RowX w xb A.1.2 ∧ RowX w ya A.2.1 ∧ RowX w yb A.2.2
def PtTo (Q : P2) (w : World) (e : Ending) (w' : World) : Prop := ∃ v, e = .returned v ∧ PtX w' v Q ∧ Below w.heap.size w w'
theorem PtX.below {w w' : World} {v : Value} {Q : P2} (h : PtX w v Q) (b : Below w.heap.size w w') : PtX w' v Q := by
  cases Q with
  | none => exact h
  | some A =>
    obtain ⟨xa, xb, ya, yb, e, h1, h2, h3, h4⟩ := h
    exact ⟨xa, xb, ya, yb, e, h1.below b, h2.below b, h3.below b, h4.below b⟩
theorem PtX.cells {w : World} {v : Value} {Q : P2} (h : PtX w v Q) : ∃ A1 n1 c1 A2 n2 c2 A3 n3 c3 A4 n4 c4, v = .agg (ptC Q.isNone (.slice A1 n1 c1) (.slice A2 n2 c2) (.slice A3 n3 c3) (.slice A4 n4 c4)) := by
  cases Q with
  | none => exact h
  | some A =>
    obtain ⟨xa, xb, ya, yb, rfl, h1, h2, h3, h4⟩ := h
    obtain ⟨A1, n1, c1, rfl⟩ := h1.shape
    obtain ⟨A2, n2, c2, rfl⟩ := h2.shape
    obtain ⟨A3, n3, c3, rfl⟩ := h3.shape
    obtain ⟨A4, n4, c4, rfl⟩ := h4.shape
    exact ⟨A1, n1, c1, A2, n2, c2, A3, n3, c3, A4, n4, c4, rfl⟩
theorem PtX.pairs {w : World} {z : Bool} {xa xb ya yb : Value} {A : Pn × Pn} (h : PtX w (.agg (ptC z xa xb ya yb)) (some A)) : z = false ∧ PairX w (.agg #[xa, xb]) A.1 ∧ PairX w (.agg #[ya, yb]) A.2 := by
  obtain ⟨a, b, c, d, e, h1, h2, h3, h4⟩ := h
  simp only [Value.agg.injEq, ptC, Array.mk.injEq, List.cons.injEq, Value.bool.injEq] at e
  obtain ⟨e0, e1, e2, e3, e4, _⟩ := e
  subst e0 e1 e2 e3 e4
  exact ⟨rfl, ⟨_, _, rfl, h1, h2⟩, ⟨_, _, rfl, h3, h4⟩⟩
theorem PtX.of {w : World} {xa xb ya yb : Value} {A : Pn × Pn} (hx : PairX w (.agg #[xa, xb]) A.1) (hy : PairX w (.agg #[ya, yb]) A.2) : PtX w (.agg (ptC false xa xb ya yb)) (some A) := by
  obtain ⟨a, b, e, h1, h2⟩ := hx
  obtain ⟨c, d, e', h3, h4⟩ := hy
  simp only [Value.agg.injEq, Array.mk.injEq, List.cons.injEq] at e e'
  obtain ⟨rfl, rfl, _⟩ := e
  obtain ⟨rfl, rfl, _⟩ := e'
  exact ⟨_, _, _, _, rfl, h1, h2, h3, h4⟩
theorem built_10 (z : Bool) (xa xb ya yb : Value) : Try.prog.built 49 [(0, .bool z), (1, .agg #[xa, xb]), (2, .agg #[ya, yb])] = some (ptC z xa xb ya yb) := by
  cases hq : structParts Try.prog 49 with
  | none => have e := Try.parts10; rw [hq] at e; cases e
  | some q =>
    obtain ⟨z0, pl⟩ := q
    have e := Try.parts10
    rw [hq] at e
    simp only [Option.map_some, Option.some.injEq, Prod.mk.injEq] at e
    obtain ⟨e1, rfl⟩ := e
    rw [built_parts hq]
    have ez : z0.cells = #[] ++ #[.bool false] ++ #[.slice none 0 0, .slice none 0 0, .slice none 0 0, .slice none 0 0] := Array.ext' (by rw [e1]; rfl)
    rw [ez, fill_step (R := #[.bool z]) (off := 0) (n := 1) rfl rfl rfl rfl rfl]
    rw [show (#[] ++ #[.bool z] ++ #[.slice none 0 0, .slice none 0 0, .slice none 0 0, .slice none 0 0] : Array Value) = #[.bool z] ++ #[.slice none 0 0, .slice none 0 0] ++ #[.slice none 0 0, .slice none 0 0] from rfl, fill_step (R := #[xa, xb]) (off := 1) (n := 2) rfl rfl rfl rfl rfl]
    rw [show (#[.bool z] ++ #[xa, xb] ++ #[.slice none 0 0, .slice none 0 0] : Array Value) = #[.bool z, xa, xb] ++ #[.slice none 0 0, .slice none 0 0] ++ #[] from rfl, fill_step (R := #[ya, yb]) (off := 3) (n := 2) rfl rfl rfl rfl rfl]
    simp [Instr.fill, ptC]
end Go.Proofs.Ytdajgcgliidjbaa
/-
  What chains of pairs in variables want: loads out of blocks that stand, blocks in another order.
-/
namespace Go.Proofs.Ytdajgcgliidjbaa
open Go.RowKit
theorem PairX.q {w : World} {v : Value} {x : Pn} (h : PairX w v x) : ∃ q : Array Value, v = .agg q := by
  obtain ⟨a, b, rfl, _⟩ := h
  exact ⟨_, rfl⟩
theorem Begun.more {w w' : World} {L : List (Nat × Array Value × TypeId)} {o g : Nat} {Z C : Array Value} {t tC : TypeId} (h : Begun w w' L o Z t) (hg : w'.heap[g]? = some (.cells C tC (0, 0))) (ne : g ≠ o) : Begun w w' ((g, C, tC) :: L) o Z t :=
  ⟨h.h.cons hg, h.out, fun q hq => by
    rcases List.mem_cons.1 hq with rfl | hq
    · exact ne
    · exact h.ne q hq, h.b⟩
theorem Begun.sub {w w' : World} {L L' : List (Nat × Array Value × TypeId)} {o : Nat} {Z : Array Value} {t : TypeId} (h : Begun w w' L o Z t) (hs : ∀ q ∈ L', q ∈ L) : Begun w w' L' o Z t := ⟨fun q hq => h.h q (hs q hq), h.out, fun q hq => h.ne q (hs q hq), h.b⟩
end Go.Proofs.Ytdajgcgliidjbaa
/-
  Points of spec: l07Zero, l07Same, l10In, l10Out, l10On, l10Neg.
-/
namespace Go.Proofs.Ytdajgcgliidjbaa
open Go.RowKit
theorem pn_same (x y : Pn) : decide (x = y) = (decide (x.1 = y.1) && decide (x.2 = y.2)) := by
  by_cases h1 : x.1 = y.1
  · by_cases h2 : x.2 = y.2
    · rw [decide_eq_true h1, decide_eq_true h2, decide_eq_true (Prod.ext h1 h2)]; rfl
    · rw [decide_eq_false h2, decide_eq_false (fun e => h2 (congrArg Prod.snd e)), Bool.and_false]
  · rw [decide_eq_false h1, decide_eq_false (fun e => h1 (congrArg Prod.fst e)), Bool.false_and]
theorem cmp_zero (x y : Nat) : (cmpI x y == 0) = decide (x = y) := by
  unfold cmpI
  rcases Nat.lt_trichotomy x y with h | h | h
  · rw [if_pos h, decide_eq_false (by omega)]; rfl
  · rw [if_neg (by omega), if_pos h, decide_eq_true h]; rfl
  · rw [if_neg (by omega), if_neg (by omega), decide_eq_false (by omega)]; rfl
set_option maxRecDepth 8000 in
set_option maxHeartbeats 4000000 in
theorem lsame7_x {w : World} {u v : Value} {x y : Pn} (h : PairX w u x) (k : PairX w v y) (hx : x.1 < SM ∧ x.2 < SM) : Calls Try.prog 38 #[u, v] w fun e w' => e = .returned (.bool (decide (x = y))) ∧ Below w.heap.size w w' := by
  have HS0 := Lib.hid hx
  obtain ⟨a, b, rfl, h1, h2⟩ := h
  obtain ⟨c, d, rfl, k1, k2⟩ := k
  have H1 := Lib.hid (And.intro h1 k1)
  have H2 := Lib.hid (And.intro h2 k2)
  obtain ⟨A1, n1, c1, rfl⟩ := h1.shape
  obtain ⟨A2, n2, c2, rfl⟩ := h2.shape
  obtain ⟨A3, n3, c3, rfl⟩ := k1.shape
  obtain ⟨A4, n4, c4, rfl⟩ := k2.shape
  obtain ⟨q, hq⟩ : ∃ q : Array Value, #[.slice A1 n1 c1, .slice A2 n2 c2] = q := ⟨_, rfl⟩
  obtain ⟨r, hr⟩ : ∃ q : Array Value, #[.slice A3 n3 c3, .slice A4 n4 c4] = q := ⟨_, rfl⟩
  have HQ : Hid (∀ (w' : World) (g : Nat), w'.heap[g]? = some (.cells q 47 (0, 0)) → w'.cell? ⟨g, 0, none⟩ = some (.slice A1 n1 c1) ∧ w'.cell? ⟨g, 1, none⟩ = some (.slice A2 n2 c2)) := fun w' g hg => by
    subst hq
    exact ⟨(cell_of_row w' g 0 _ _ _ hg).trans rfl, (cell_of_row w' g 1 _ _ _ hg).trans rfl⟩
  have HR : Hid (∀ (w' : World) (g : Nat), w'.heap[g]? = some (.cells r 47 (0, 0)) → w'.cell? ⟨g, 0, none⟩ = some (.slice A3 n3 c3) ∧ w'.cell? ⟨g, 1, none⟩ = some (.slice A4 n4 c4)) := fun w' g hg => by
    subst hr
    exact ⟨(cell_of_row w' g 0 _ _ _ hg).trans rfl, (cell_of_row w' g 1 _ _ _ hg).trans rfl⟩
  have HG0 := Lib.hid (stand2 w q r 47 47)
  have e1 := cmp_zero x.1 y.1
  have e2 := cmp_zero x.2 y.2
  rw [hq, hr, pn_same]
  generalize decide (x.1 = y.1) = b1 at *
  generalize decide (x.2 = y.2) = b2 at *
  clear h1 h2 k1 k2 hq hr hx
  go_enter Try.func38, Try.ntmps38
  go_upto_region 1 with (fail)
  generalize (w.alloc _).alloc _ = w0 at *
  obtain ⟨d1, d2⟩ := HQ.out _ _ (show _ = some (Obj.cells q 47 (0, 0)) from HG0.out.h _ (.tail _ (.head _)))
  obtain ⟨d3, d4⟩ := HR.out _ _ (show _ = some (Obj.cells r 47 (0, 0)) from HG0.out.h _ (.head _))
  go_wp2_with fail
  refine (cmp_x (H1.out.1.below HG0.out.b) (H1.out.2.below HG0.out.b) HS0.out.1).mono ?_
  rintro e w1 ⟨rfl, bw1⟩
  have HG1 := Lib.hid (HG0.out.on bw1)
  clear d1 d2 d3 d4 HG0 H1 bw1
  generalize cmpI x.1 y.1 = k1 at *
  cases b1 with
  | false =>
    go_wp2
    go_ret
    exact ⟨rfl, HG1.out.b⟩
  | true =>
    obtain ⟨d1, d2⟩ := HQ.out _ _ (show _ = some (Obj.cells q 47 (0, 0)) from HG1.out.h _ (.tail _ (.head _)))
    obtain ⟨d3, d4⟩ := HR.out _ _ (show _ = some (Obj.cells r 47 (0, 0)) from HG1.out.h _ (.head _))
    go_wp2_with fail
    refine (cmp_x (H2.out.1.below HG1.out.b) (H2.out.2.below HG1.out.b) HS0.out.2).mono ?_
    rintro e w2 ⟨rfl, bw2⟩
    have HG2 := Lib.hid (HG1.out.on bw2)
    clear d1 d2 d3 d4 HG1 H2 bw2
    generalize cmpI x.2 y.2 = k2 at *
    cases b2 <;> (
      go_wp2
      go_ret
      exact ⟨rfl, HG2.out.b⟩)
theorem pt_z {w : World} {g : Nat} {z : Bool} {xa xb ya yb : Value} (h : w.heap[g]? = some (.cells (ptC z xa xb ya yb) 49 (0, 0))) : w.cell? ⟨g, 0, none⟩ = some (.bool z) := (cell_of_row w g 0 _ _ _ h).trans rfl
set_option maxRecDepth 8000 in
set_option maxHeartbeats 4000000 in
theorem on10_x {w : World} {vb vp : Value} {z : Bool} {A1 A2 A3 A4 : Option Addr} {n1 c1 n2 c2 n3 c3 n4 c4 : Nat} {x y b : Pn} {n : Nat} (hx : PairX w (.agg #[.slice A1 n1 c1, .slice A2 n2 c2]) x) (hy : PairX w (.agg #[.slice A3 n3 c3, .slice A4 n4 c4]) y) (hb : PairX w vb b) (hp : RowX w vp n) (ix : InP2 n x) (iy : InP2 n y) (ib : InP2 n b) (hn : n < GB) :
    Calls Try.prog 21 #[.agg (ptC z (.slice A1 n1 c1) (.slice A2 n2 c2) (.slice A3 n3 c3) (.slice A4 n4 c4)), vb, vp] w fun e w' => e = .returned (.bool (decide (mulP n y y = rightP n b x))) ∧ Below w.heap.size w w' := by
  have h0 : 0 < n := Nat.lt_of_le_of_lt (Nat.zero_le _) ix.1
  have HX := Lib.hid hx
  have HY := Lib.hid hy
  have HBx := Lib.hid hb
  have HP := Lib.hid hp
  have HI := Lib.hid (And.intro ix (And.intro iy (And.intro ib (And.intro hn h0))))
  have im := mulP_in h0 y y
  have HM := Lib.hid (And.intro (sm_one (Nat.lt_trans im.1 hn)) (sm_one (Nat.lt_trans im.2 hn)))
  obtain ⟨ba, bb, rfl, k1, k2⟩ := hb
  obtain ⟨pA, pn, pc, rfl⟩ := hp.shape
  obtain ⟨qb, hqb⟩ : ∃ q : Array Value, #[ba, bb] = q := ⟨_, rfl⟩
  have HQ := Lib.hid (show qb.size = 2 by rw [← hqb]; rfl)
  rw [hqb] at HBx
  rw [hqb]
  obtain ⟨bo, hbo⟩ : ∃ o, decide (mulP n y y = rightP n b x) = o := ⟨_, rfl⟩
  have HBo := Lib.hid hbo
  rw [hbo]
  clear hx hy hp ix iy ib hn h0 im k1 k2 hqb hbo
  have HG0 := Lib.hid (stand2 w (ptC z (.slice A1 n1 c1) (.slice A2 n2 c2) (.slice A3 n3 c3) (.slice A4 n4 c4)) qb 49 47).drew
  have HS0 := Lib.hid HG0.out.h
  have FX := Lib.hid (show ∀ w', Held w' (((w.heap.size + 1), qb, 47) :: (w.heap.size, ptC z (.slice A1 n1 c1) (.slice A2 n2 c2) (.slice A3 n3 c3) (.slice A4 n4 c4), 49) :: []) → (Instr.loadAt 47 (.pointer (some ⟨w.heap.size, 1, none⟩))).run Try.prog w' = .ok (.agg #[.slice A1 n1 c1, .slice A2 n2 c2]) w' from fun w' hw => (pt_at (show _ = some (Obj.cells (ptC z (.slice A1 n1 c1) (.slice A2 n2 c2) (.slice A3 n3 c3) (.slice A4 n4 c4)) 49 (0, 0)) from hw (w.heap.size, ptC z (.slice A1 n1 c1) (.slice A2 n2 c2) (.slice A3 n3 c3) (.slice A4 n4 c4), 49) (.tail _ (.head _)))).x)
  have FY := Lib.hid (show ∀ w', Held w' (((w.heap.size + 1), qb, 47) :: (w.heap.size, ptC z (.slice A1 n1 c1) (.slice A2 n2 c2) (.slice A3 n3 c3) (.slice A4 n4 c4), 49) :: []) → (Instr.loadAt 47 (.pointer (some ⟨w.heap.size, 3, none⟩))).run Try.prog w' = .ok (.agg #[.slice A3 n3 c3, .slice A4 n4 c4]) w' from fun w' hw => (pt_at (show _ = some (Obj.cells (ptC z (.slice A1 n1 c1) (.slice A2 n2 c2) (.slice A3 n3 c3) (.slice A4 n4 c4)) 49 (0, 0)) from hw (w.heap.size, ptC z (.slice A1 n1 c1) (.slice A2 n2 c2) (.slice A3 n3 c3) (.slice A4 n4 c4), 49) (.tail _ (.head _)))).y)
  have FB := Lib.hid (show ∀ w', Held w' (((w.heap.size + 1), qb, 47) :: (w.heap.size, ptC z (.slice A1 n1 c1) (.slice A2 n2 c2) (.slice A3 n3 c3) (.slice A4 n4 c4), 49) :: []) → (Instr.loadAt 47 (.pointer (some ⟨w.heap.size + 1, 0, none⟩))).run Try.prog w' = .ok (.agg qb) w' from fun w' hw => cells_load (show _ = some (Obj.cells (qb) 47 (0, 0)) from hw ((w.heap.size + 1), qb, 47) (.head _)) Try.underlying47 rfl (by rw [HQ.out]; exact Try.info7))
  go_enter Try.func21, Try.ntmps21
  go_wp2_with fail
  generalize (w.alloc _).alloc _ = w0 at *
  refine sq_go (S := fun w' => Held w' (((w.heap.size + 1), qb, 47) :: (w.heap.size, ptC z (.slice A1 n1 c1) (.slice A2 n2 c2) (.slice A3 n3 c3) (.slice A4 n4 c4), 49) :: [])) [(true, 0), (true, 1), (true, 2), (true, 3), (true, 4), (true, 6), (true, 7), (true, 8), (true, 9), (false, 5), (false, 10), (false, 11), (true, 12)] (by kernel_rfl) (fun d _ _ _ _ h => by cases d <;> exact h) HS0.out ?_
  refine sq_ps [(0, .pointer (some ⟨w.heap.size, 3, none⟩))] (by kernel_rfl) ?_
  refine sq_ld (some 8) FY.out (by kernel_rfl) ?_
  refine sq_ps [(2, .pointer (some ⟨w.heap.size, 3, none⟩))] (by kernel_rfl) ?_
  refine sq_ld (some 10) FY.out (by kernel_rfl) ?_
  refine sq_ps [(4, .slice pA pn pc), (6, .pointer (some ⟨w.heap.size, 1, none⟩))] (by kernel_rfl) ?_
  refine sq_ld (some 14) FX.out (by kernel_rfl) ?_
  refine sq_ld (some 15) FB.out (by kernel_rfl) ?_
  refine sq_ps [(9, .slice pA pn pc)] (by kernel_rfl) ?_
  refine sq_c (some 12) Try.func39 (lmul7_x (HY.out.below HG0.out.b) (HY.out.below HG0.out.b) (HP.out.below HG0.out.b) HI.out.2.1 HI.out.2.1 HI.out.2.2.2.1) (by kernel_rfl) ?_
  rintro e v1 ⟨v1, rfl, hv1, bw1⟩
  have R1 := Lib.hid hv1
  have HG1 := Lib.hid (HG0.out.on bw1)
  have HS1 := Lib.hid HG1.out.h
  refine ⟨_, rfl, HS1.out, ?_⟩
  refine sq_c (some 17) Try.func40 (right_x (HX.out.below HG1.out.b) (HBx.out.below HG1.out.b) (HP.out.below HG1.out.b) HI.out.1 HI.out.2.2.1 HI.out.2.2.2.1) (by kernel_rfl) ?_
  rintro e v2 ⟨v2, rfl, hv2, bw2⟩
  have R2 := Lib.hid hv2
  have HG2 := Lib.hid (HG1.out.on bw2)
  have HS2 := Lib.hid HG2.out.h
  refine ⟨_, rfl, HS2.out, ?_⟩
  refine sq_c (some 18) Try.func38 (lsame7_x (R1.out.below bw2) R2.out HM.out) (by kernel_rfl) ?_
  rintro e v3 ⟨he, bw3⟩
  rw [HBo.out] at he
  subst he
  have HG3 := Lib.hid (HG2.out.on bw3)
  have HS3 := Lib.hid HG3.out.h
  refine ⟨_, rfl, HS3.out, ?_⟩
  refine sq_ps [(12, .bool bo)] (by kernel_rfl) ?_
  refine sq_done ?_
  refine (by assumption : ∀ (a : Act) (w_1 : World), Code.wp _ Code.ret _ a w_1 → _) _ _ ?_
  refine wp_ret ?_
  exact ret_at (v := .bool bo) Try.results21 (by kernel_rfl) (by kernel_rfl) ⟨rfl, HG3.out.b⟩
theorem built_7 (A : Option Addr) (n c : Nat) (B : Option Addr) (m d : Nat) : Try.prog.built 47 [(0, .slice A n c), (1, .slice B m d)] = some #[.slice A n c, .slice B m d] := by
  cases hq : structParts Try.prog 47 with
  | none => have e := Try.parts7; rw [hq] at e; cases e
  | some q =>
    obtain ⟨z, pl⟩ := q
    have e := Try.parts7
    rw [hq] at e
    simp only [Option.map_some, Option.some.injEq, Prod.mk.injEq] at e
    obtain ⟨e1, rfl⟩ := e
    rw [built_parts hq]
    have ez : z.cells = #[] ++ #[.slice none 0 0] ++ #[.slice none 0 0] := Array.ext' (by rw [e1]; rfl)
    rw [ez, fill_step (R := #[.slice A n c]) (off := 0) (n := 1) rfl rfl rfl rfl rfl]
    rw [show (#[] ++ #[.slice A n c] ++ #[.slice none 0 0] : Array Value) = #[.slice A n c] ++ #[.slice none 0 0] ++ #[] from rfl, fill_step (R := #[.slice B m d]) (off := 1) (n := 1) rfl rfl rfl rfl rfl]
    simp [Instr.fill]
theorem sq_bs {P : Program} {ops : Array Oper} {Q : Exit → Act → World → Prop} {S : World → Prop} {K : Act → World → Prop} {i : Nat} {r : List (Bool × Nat)} {a : Act} {w : World} (d : Option Tmp) (v : Value) (w' : World) (h : ((oAt ops i).dst, Nat.blt i ops.size, Region.wanted (oAt ops i) (yielded ops a.tmps)) = (d, true, true)) (e : (execOp a.eval (oAt ops i)).run P w = .ok (.value v) w') (hS : S w') (k : seqH P ops Q S K r (a.put d v) w') : seqH P ops Q S K ((false, i) :: r) a w := by
  simp only [Prod.mk.injEq] at h
  refine sq_op h.2.1 h.2.2 ?_
  unfold Oper.wp
  rw [e, Oper.upon_value, h.1]
  exact ⟨hS, k⟩
def iNeg7 : List OpI := [⟨0, some 5, []⟩, ⟨0, some 6, [2]⟩, ⟨2, some 7, [6]⟩, ⟨0, some 8, [1]⟩, ⟨13, some 9, [5, 7, 8]⟩, ⟨0, some 10, []⟩, ⟨0, some 11, [2]⟩, ⟨64, some 12, [11]⟩, ⟨0, some 13, [1]⟩, ⟨432, some 14, [10, 12, 13]⟩, ⟨528, some 15, [9, 14]⟩, ⟨2047, none, [4, 15]⟩]
set_option maxRecDepth 8000 in
set_option maxHeartbeats 4000000 in
theorem lneg7_x {w : World} {vx vp : Value} {x : Pn} {n : Nat} (hx : PairX w vx x) (hp : RowX w vp n) (ix : InP2 n x) (hn : n < GB) : Calls Try.prog 49 #[vx, vp] w (PairTo (negP n x) w) := by
  have HI := Lib.hid (show InP2 n x ∧ 0 < n ∧ n < GB from ⟨ix, Nat.lt_of_le_of_lt (Nat.zero_le _) ix.1, hn⟩)
  obtain ⟨xa, xb, rfl, ha, hb⟩ := hx
  have HA := Lib.hid ha
  have HB2 := Lib.hid hb
  have HP := Lib.hid hp
  obtain ⟨Aa, na, ca, rfl⟩ := ha.shape
  obtain ⟨Ab, nb, cb, rfl⟩ := hb.shape
  obtain ⟨pA, pn, pc, rfl⟩ := hp.shape
  obtain ⟨qx, hqx⟩ : ∃ q : Array Value, #[.slice Aa na ca, .slice Ab nb cb] = q := ⟨_, rfl⟩
  have hge : w.heap.size ≤ w.heap.size + 1 := Nat.le_succ _
  have HQ : Hid (∀ (w' : World) (g : Nat), w'.heap[g]? = some (.cells qx 47 (0, 0)) → w'.cell? ⟨g, 0, none⟩ = some (.slice Aa na ca) ∧ w'.cell? ⟨g, 1, none⟩ = some (.slice Ab nb cb)) := fun w' g hg => by
    subst hqx
    exact ⟨(cell_of_row w' g 0 _ _ _ hg).trans rfl, (cell_of_row w' g 1 _ _ _ hg).trans rfl⟩
  rw [hqx]
  clear ha hb hp ix hn hqx
  have HG0 := Lib.hid (begun2 (Held.none w) qx #[.slice none 0 0, .slice none 0 0] 47 47).drew
  have HS0 := Lib.hid HG0.out.h
  have FA := Lib.hid (show ∀ w', Held w' ((w.heap.size, qx, 47) :: []) → (Instr.loadAt 45 (.pointer (some ⟨w.heap.size, 0, none⟩))).run Try.prog w' = .ok (.slice Aa na ca) w' from fun w' hw => row_load (HQ.out _ _ (show _ = some (Obj.cells (qx) 47 (0, 0)) from hw (w.heap.size, qx, 47) (.head _))).1)
  have FB := Lib.hid (show ∀ w', Held w' ((w.heap.size, qx, 47) :: []) → (Instr.loadAt 45 (.pointer (some ⟨w.heap.size, 1, none⟩))).run Try.prog w' = .ok (.slice Ab nb cb) w' from fun w' hw => row_load (HQ.out _ _ (show _ = some (Obj.cells (qx) 47 (0, 0)) from hw (w.heap.size, qx, 47) (.head _))).2)
  unfold PairTo negP subP
  go_enter Try.func49, Try.ntmps49
  go_wp2_with fail
  refine m_begin (S := fun w' => Held w' ((w.heap.size, qx, 47) :: [])) (by kernel_rfl) 12 (by kernel_rfl) ?_
  change wpM _ _ _ _ _ _ _ _ ((w.alloc _).alloc _).drew
  generalize ((w.alloc _).alloc _).drew = w0 at *
  refine m_seq (f := 6) iNeg7 [(true, 1), (true, 2), (true, 3), (true, 6), (true, 7), (true, 8)] 462 (by kernel_rfl) (by kernel_rfl) (fun d _ _ _ _ h => by cases d <;> exact h) (by kernel_rfl) (by kernel_rfl) (by kernel_rfl) HS0.out ?_
  refine sq_ps [(1, .pointer (some ⟨w.heap.size, 0, none⟩))] (by kernel_rfl) ?_
  refine sq_ld (some 7) FA.out (by kernel_rfl) ?_
  refine sq_ps [(3, .slice pA pn pc), (6, .pointer (some ⟨w.heap.size, 1, none⟩))] (by kernel_rfl) ?_
  refine sq_ld (some 12) FB.out (by kernel_rfl) ?_
  refine sq_ps [(8, .slice pA pn pc)] (by kernel_rfl) ?_
  refine sq_done ?_
  refine m_ways (f := 5) iNeg7 [0, 5] (by kernel_rfl) (by kernel_rfl) (by kernel_rfl) (by kernel_rfl) ?_
  intro i hi
  rcases (by simpa using hi : i = 0 ∨ i = 5) with rfl | rfl
  · have Z1 := Lib.hid (row_none w0)
    have bz1 : Below w0.heap.size w0 (w0.alloc (.cells #[] 3)) := (Below.refl _ _).alloc (Nat.le_refl _) _
    have HG1 := Lib.hid (HG0.out.on bz1)
    have HS1 := Lib.hid HG1.out.h
    refine sq_bs (some 5) (.slice (some ⟨w0.heap.size, 0, none⟩) 0 0) (w0.alloc (.cells #[] 3)) (by kernel_rfl) (by kernel_rfl) HS1.out ?_
    generalize hw1 : w0.alloc (.cells #[] 3) = w1 at *
    refine sq_done ?_
    refine m_ways (f := 4) iNeg7 [4, 5] (by kernel_rfl) (by kernel_rfl) (by kernel_rfl) (by kernel_rfl) ?_
    intro i hi
    rcases (by simpa using hi : i = 4 ∨ i = 5) with rfl | rfl
    · refine sq_c (some 9) Try.func53 (lsub_x (Z1.out) (HA.out.below HG1.out.b) (HP.out.below HG1.out.b) HI.out.2.1 HI.out.1.1 HI.out.2.2) (by kernel_rfl) ?_
      rintro e w2 ⟨v2, rfl, hv2, bw2⟩
      have R2 := Lib.hid hv2
      obtain ⟨A2, n2, c2, rfl⟩ := hv2.shape
      have HG2 := Lib.hid (HG1.out.on bw2)
      have HS2 := Lib.hid HG2.out.h
      refine ⟨_, rfl, HS2.out, ?_⟩
      refine sq_done ?_
      refine m_seq (f := 0) iNeg7 [(false, 5), (false, 9), (true, 10), (false, 11)] 4095 (by kernel_rfl) (by kernel_rfl) (fun d _ _ _ _ h => by cases d <;> exact h) (by kernel_rfl) (by kernel_rfl) (by kernel_rfl) HS2.out ?_
      have Z3 := Lib.hid (row_none w2)
      have bz3 : Below w2.heap.size w2 (w2.alloc (.cells #[] 3)) := (Below.refl _ _).alloc (Nat.le_refl _) _
      have HG3 := Lib.hid (HG2.out.on bz3)
      have HS3 := Lib.hid HG3.out.h
      refine sq_bs (some 10) (.slice (some ⟨w2.heap.size, 0, none⟩) 0 0) (w2.alloc (.cells #[] 3)) (by kernel_rfl) (by kernel_rfl) HS3.out ?_
      generalize hw3 : w2.alloc (.cells #[] 3) = w3 at *
      refine sq_c (some 14) Try.func53 (lsub_x (Z3.out) (HB2.out.below HG3.out.b) (HP.out.below HG3.out.b) HI.out.2.1 HI.out.1.2 HI.out.2.2) (by kernel_rfl) ?_
      rintro e w4 ⟨v4, rfl, hv4, bw4⟩
      have R4 := Lib.hid hv4
      obtain ⟨A4, n4, c4, rfl⟩ := hv4.shape
      have HG4 := Lib.hid (HG3.out.on bw4)
      have HS4 := Lib.hid HG4.out.h
      refine ⟨_, rfl, HS4.out, ?_⟩
      refine sq_pure (some 15) (.agg #[.slice A2 n2 c2, .slice A4 n4 c4]) (by kernel_rfl) (by kernel_rfl) (held_build 47 #[(0, (.tmp 9)), (1, (.tmp 14))] (by kernel_rfl) _ (by kernel_rfl) _ (built_7 _ _ _ _ _ _)) ?_
      have HE := Lib.hid (HG4.out.put hge #[.slice A2 n2 c2, .slice A4 n4 c4])
      refine sq_st 47 (w.heap.size + 1) #[.slice A2 n2 c2, .slice A4 n4 c4] HG4.out.out Try.info7 rfl (by kernel_rfl) (HS4.out.setRow HG4.out.ne) (by kernel_rfl) ?_
      refine sq_done ?_
      refine m_done iNeg7 (by kernel_rfl) (by kernel_rfl) _ rfl ?_
      refine (by assumption : ∀ (a : Act) (w_1 : World), Code.wp _ Code.ret _ a w_1 → _) _ _ ?_
      refine wp_ret ?_
      exact bodyPost_ret (results_cell_row Try.results49 _ _ (w.heap.size + 1) _ _ _ _ (by kernel_rfl) HE.out.out Try.underlying47 rfl Try.info7) (by kernel_rfl) ⟨_, rfl, ⟨_, _, rfl, RowX.setRow (R2.out.below (bt bz3 bw4)) HG4.out.out (by decide), RowX.setRow R4.out HG4.out.out (by decide)⟩, HE.out.b⟩
    · have Z2 := Lib.hid (row_none w1)
      have bz2 : Below w1.heap.size w1 (w1.alloc (.cells #[] 3)) := (Below.refl _ _).alloc (Nat.le_refl _) _
      have HG2 := Lib.hid (HG1.out.on bz2)
      have HS2 := Lib.hid HG2.out.h
      refine sq_bs (some 10) (.slice (some ⟨w1.heap.size, 0, none⟩) 0 0) (w1.alloc (.cells #[] 3)) (by kernel_rfl) (by kernel_rfl) HS2.out ?_
      generalize hw2 : w1.alloc (.cells #[] 3) = w2 at *
      refine sq_done ?_
      refine m_seq (f := 0) iNeg7 [(false, 4), (false, 9), (true, 10), (false, 11)] 4095 (by kernel_rfl) (by kernel_rfl) (fun d _ _ _ _ h => by cases d <;> exact h) (by kernel_rfl) (by kernel_rfl) (by kernel_rfl) HS2.out ?_
      refine sq_c (some 9) Try.func53 (lsub_x (Z1.out.below bz2) (HA.out.below HG2.out.b) (HP.out.below HG2.out.b) HI.out.2.1 HI.out.1.1 HI.out.2.2) (by kernel_rfl) ?_
      rintro e w3 ⟨v3, rfl, hv3, bw3⟩
      have R3 := Lib.hid hv3
      obtain ⟨A3, n3, c3, rfl⟩ := hv3.shape
      have HG3 := Lib.hid (HG2.out.on bw3)
      have HS3 := Lib.hid HG3.out.h
      refine ⟨_, rfl, HS3.out, ?_⟩
      refine sq_c (some 14) Try.func53 (lsub_x (Z2.out.below bw3) (HB2.out.below HG3.out.b) (HP.out.below HG3.out.b) HI.out.2.1 HI.out.1.2 HI.out.2.2) (by kernel_rfl) ?_
      rintro e w4 ⟨v4, rfl, hv4, bw4⟩
      have R4 := Lib.hid hv4
      obtain ⟨A4, n4, c4, rfl⟩ := hv4.shape
      have HG4 := Lib.hid (HG3.out.on bw4)
      have HS4 := Lib.hid HG4.out.h
      refine ⟨_, rfl, HS4.out, ?_⟩
      refine sq_pure (some 15) (.agg #[.slice A3 n3 c3, .slice A4 n4 c4]) (by kernel_rfl) (by kernel_rfl) (held_build 47 #[(0, (.tmp 9)), (1, (.tmp 14))] (by kernel_rfl) _ (by kernel_rfl) _ (built_7 _ _ _ _ _ _)) ?_
      have HE := Lib.hid (HG4.out.put hge #[.slice A3 n3 c3, .slice A4 n4 c4])
      refine sq_st 47 (w.heap.size + 1) #[.slice A3 n3 c3, .slice A4 n4 c4] HG4.out.out Try.info7 rfl (by kernel_rfl) (HS4.out.setRow HG4.out.ne) (by kernel_rfl) ?_
      refine sq_done ?_
      refine m_done iNeg7 (by kernel_rfl) (by kernel_rfl) _ rfl ?_
      refine (by assumption : ∀ (a : Act) (w_1 : World), Code.wp _ Code.ret _ a w_1 → _) _ _ ?_
      refine wp_ret ?_
      exact bodyPost_ret (results_cell_row Try.results49 _ _ (w.heap.size + 1) _ _ _ _ (by kernel_rfl) HE.out.out Try.underlying47 rfl Try.info7) (by kernel_rfl) ⟨_, rfl, ⟨_, _, rfl, RowX.setRow (R3.out.below bw4) HG4.out.out (by decide), RowX.setRow R4.out HG4.out.out (by decide)⟩, HE.out.b⟩
  · have Z1 := Lib.hid (row_none w0)
    have bz1 : Below w0.heap.size w0 (w0.alloc (.cells #[] 3)) := (Below.refl _ _).alloc (Nat.le_refl _) _
    have HG1 := Lib.hid (HG0.out.on bz1)
    have HS1 := Lib.hid HG1.out.h
    refine sq_bs (some 10) (.slice (some ⟨w0.heap.size, 0, none⟩) 0 0) (w0.alloc (.cells #[] 3)) (by kernel_rfl) (by kernel_rfl) HS1.out ?_
    generalize hw1 : w0.alloc (.cells #[] 3) = w1 at *
    refine sq_done ?_
    refine m_seq (f := 0) iNeg7 [(false, 0), (false, 4), (false, 9), (true, 10), (false, 11)] 4095 (by kernel_rfl) (by kernel_rfl) (fun d _ _ _ _ h => by cases d <;> exact h) (by kernel_rfl) (by kernel_rfl) (by kernel_rfl) HS1.out ?_
    have Z2 := Lib.hid (row_none w1)
    have bz2 : Below w1.heap.size w1 (w1.alloc (.cells #[] 3)) := (Below.refl _ _).alloc (Nat.le_refl _) _
    have HG2 := Lib.hid (HG1.out.on bz2)
    have HS2 := Lib.hid HG2.out.h
    refine sq_bs (some 5) (.slice (some ⟨w1.heap.size, 0, none⟩) 0 0) (w1.alloc (.cells #[] 3)) (by kernel_rfl) (by kernel_rfl) HS2.out ?_
    generalize hw2 : w1.alloc (.cells #[] 3) = w2 at *
    refine sq_c (some 9) Try.func53 (lsub_x (Z2.out) (HA.out.below HG2.out.b) (HP.out.below HG2.out.b) HI.out.2.1 HI.out.1.1 HI.out.2.2) (by kernel_rfl) ?_
    rintro e w3 ⟨v3, rfl, hv3, bw3⟩
    have R3 := Lib.hid hv3
    obtain ⟨A3, n3, c3, rfl⟩ := hv3.shape
    have HG3 := Lib.hid (HG2.out.on bw3)
    have HS3 := Lib.hid HG3.out.h
    refine ⟨_, rfl, HS3.out, ?_⟩
    refine sq_c (some 14) Try.func53 (lsub_x (Z1.out.below (bt bz2 bw3)) (HB2.out.below HG3.out.b) (HP.out.below HG3.out.b) HI.out.2.1 HI.out.1.2 HI.out.2.2) (by kernel_rfl) ?_
    rintro e w4 ⟨v4, rfl, hv4, bw4⟩
    have R4 := Lib.hid hv4
    obtain ⟨A4, n4, c4, rfl⟩ := hv4.shape
    have HG4 := Lib.hid (HG3.out.on bw4)
    have HS4 := Lib.hid HG4.out.h
    refine ⟨_, rfl, HS4.out, ?_⟩
    refine sq_pure (some 15) (.agg #[.slice A3 n3 c3, .slice A4 n4 c4]) (by kernel_rfl) (by kernel_rfl) (held_build 47 #[(0, (.tmp 9)), (1, (.tmp 14))] (by kernel_rfl) _ (by kernel_rfl) _ (built_7 _ _ _ _ _ _)) ?_
    have HE := Lib.hid (HG4.out.put hge #[.slice A3 n3 c3, .slice A4 n4 c4])
    refine sq_st 47 (w.heap.size + 1) #[.slice A3 n3 c3, .slice A4 n4 c4] HG4.out.out Try.info7 rfl (by kernel_rfl) (HS4.out.setRow HG4.out.ne) (by kernel_rfl) ?_
    refine sq_done ?_
    refine m_done iNeg7 (by kernel_rfl) (by kernel_rfl) _ rfl ?_
    refine (by assumption : ∀ (a : Act) (w_1 : World), Code.wp _ Code.ret _ a w_1 → _) _ _ ?_
    refine wp_ret ?_
    exact bodyPost_ret (results_cell_row Try.results49 _ _ (w.heap.size + 1) _ _ _ _ (by kernel_rfl) HE.out.out Try.underlying47 rfl Try.info7) (by kernel_rfl) ⟨_, rfl, ⟨_, _, rfl, RowX.setRow (R3.out.below bw4) HG4.out.out (by decide), RowX.setRow R4.out HG4.out.out (by decide)⟩, HE.out.b⟩
theorem PairX.setRow7 {w : World} {v : Value} {x : Pn} {g : Nat} {C C' : Array Value} (h : PairX w v x) (hg : w.heap[g]? = some (.cells C 49 (0, 0))) : PairX (w.setRow g C') v x := by
  obtain ⟨a, b, rfl, h1, h2⟩ := h
  exact ⟨a, b, rfl, RowX.setRow h1 hg (by decide), RowX.setRow h2 hg (by decide)⟩
theorem load_mid {ops : Array Oper} {rest : List Oper} {o : Oper} {a : Act} {w : World} {Q : Exit → Act → World → Prop} (hgd : o.guard = none) (x : Operand) (ho : o.op = .load 47 x) (g k : Nat) (C : Array Value) (u v : Value)
    (hx : a.eval x = .pointer (some ⟨g, k, none⟩)) {t : TypeId} (h : w.heap[g]? = some (.cells C t (0, 0))) (h0 : C[k]? = some u) (h1 : C[k + 1]? = some v) (r : wpList Try.prog ops Q rest (a.put o.dst (.agg #[u, v])) w) : wpList Try.prog ops Q (o :: rest) a w := by
  refine wpList_plain hgd fun K hK => ?_
  unfold Oper.wp execOp
  simp only [ho, hx]
  have e := mid_load7 h h0 h1
  simp [e]
  exact hK _ _ r
theorem there_y {w : World} {g : Nat} {z : Bool} {xa xb ya yb : Value} {t : TypeId} (h : w.heap[g]? = some (.cells (ptC z xa xb ya yb) t (0, 0))) : w.there g 3 2 := fun j hj => by
  have hf : w.frozen? ⟨g, 3 + j, none⟩ = false := by simp [World.frozen?, h]
  refine ⟨?_, hf⟩
  rw [cell_of_row w g (3 + j) _ _ _ h]
  rcases (by omega : j = 0 ∨ j = 1) with rfl | rfl <;> rfl
theorem put_y {w : World} {g : Nat} {z : Bool} {xa xb ya yb : Value} {t : TypeId} (h : w.heap[g]? = some (.cells (ptC z xa xb ya yb) t (0, 0))) (u v : Value) : w.setCells g 3 [u, v] = (w.setRow g (ptC z xa xb u yb)).setRow g (ptC z xa xb u v) := by
  have e1 : w.setCell ⟨g, 3, none⟩ u = w.setRow g (ptC z xa xb u yb) := setCell_eq_setRow w g 3 _ t _ u h
  have h2 : (w.setRow g (ptC z xa xb u yb)).heap[g]? = some (.cells (ptC z xa xb u yb) t (0, 0)) := setRow_heap _ _ _ _ _ _ h
  have e2 : (w.setRow g (ptC z xa xb u yb)).setCell ⟨g, 4, none⟩ v = (w.setRow g (ptC z xa xb u yb)).setRow g (ptC z xa xb u v) := setCell_eq_setRow _ g 4 _ t _ v h2
  show (w.setCell ⟨g, 3, none⟩ u).setCell ⟨g, 3 + 1, none⟩ v = _
  rw [e1]
  exact e2
theorem store_y {ops : Array Oper} {rest : List Oper} {o : Oper} {a : Act} {w : World} {Q : Exit → Act → World → Prop} (hgd : o.guard = none) (x y : Operand) (ho : o.op = .store 47 x y) (g : Nat) {z : Bool} {xa xb ya yb : Value} (u v : Value) (hu : u.oneCell' = true) (hv : v.oneCell' = true)
    (hx : a.eval x = .pointer (some ⟨g, 3, none⟩)) (hy : a.eval y = .agg #[u, v]) {t : TypeId} (h : w.heap[g]? = some (.cells (ptC z xa xb ya yb) t (0, 0))) (r : wpList Try.prog ops Q rest (a.put o.dst undef) ((w.setRow g (ptC z xa xb u yb)).setRow g (ptC z xa xb u v))) : wpList Try.prog ops Q (o :: rest) a w := by
  refine wpList_store_mid hgd 47 x y ho g 3 #[u, v] hx hy (there_y h) Try.info7 (by simp [hu, hv]) ?_
  rw [show (#[u, v] : Array Value).toList = [u, v] from rfl, put_y h]
  exact r
def InO (n : Nat) : P2 → Prop
  | none => True
  | some A => InP2 n A.1 ∧ InP2 n A.2
set_option maxRecDepth 8000 in
set_option maxHeartbeats 4000000 in
theorem lneg10_x {w : World} {v vp : Value} {Q : P2} {n : Nat} (h : PtX w v Q) (hp : RowX w vp n) (iq : InO n Q) (hn : n < GB) : Calls Try.prog 32 #[v, vp] w (PtTo (minusP n Q) w) := by
  have hge : w.heap.size ≤ w.heap.size + 1 := Nat.le_succ _
  have HP := Lib.hid hp
  have HX := Lib.hid h
  obtain ⟨A1, n1, c1, A2, n2, c2, A3, n3, c3, A4, n4, c4, rfl⟩ := h.cells
  obtain ⟨pA, pn, pc, rfl⟩ := hp.shape
  cases Q with
  | none =>
    have HG0 := Lib.hid (begun2 (Held.none w) (ptC true (.slice A1 n1 c1) (.slice A2 n2 c2) (.slice A3 n3 c3) (.slice A4 n4 c4)) #[.bool false, .slice none 0 0, .slice none 0 0, .slice none 0 0, .slice none 0 0] 49 49)
    have HE := Lib.hid (HG0.out.put hge (ptC true (.slice A1 n1 c1) (.slice A2 n2 c2) (.slice A3 n3 c3) (.slice A4 n4 c4)))
    clear hge hp iq hn h
    unfold minusP PtTo
    generalize hC : ptC true (.slice A1 n1 c1) (.slice A2 n2 c2) (.slice A3 n3 c3) (.slice A4 n4 c4) = C at *
    have HZ : Hid ((∀ (w' : World) (g : Nat), w'.heap[g]? = some (.cells C 49 (0, 0)) → w'.cell? ⟨g, 0, none⟩ = some (.bool true)) ∧ C.size = 5 ∧ C.all (·.oneCell') = true) := by
      subst hC
      exact ⟨fun w' g hg => pt_z hg, rfl, by kernel_rfl⟩
    rw [show (none : P2).isNone = true from rfl, hC]
    rw [show (none : P2).isNone = true from rfl, hC] at HX
    clear hC
    go_enter Try.func32, Try.ntmps32
    go_upto_region 1 with (fail)
    generalize (w.alloc _).alloc _ = w0 at *
    have hb0 := HG0.out.h _ (.head _)
    have d0 := HZ.out.1 _ _ (show _ = some (Obj.cells C 49 (0, 0)) from hb0)
    have HH := Lib.hid (show _ = some (Obj.cells C 49 (0, 0)) from hb0)
    clear hb0
    go_wp2_with (first | refine load_v rfl 49 (.tmp 2) rfl w.heap.size C rfl HH.out Try.underlying49 rfl (by rw [HZ.out.2.1]; exact Try.infoPt10) ?_ | refine store_v rfl 49 (.tmp 4) (.tmp 13) rfl (w.heap.size + 1) _ C rfl rfl HG0.out.out (by rw [HZ.out.2.1]; exact Try.infoPt10) (by rw [HZ.out.2.1]; rfl) HZ.out.2.2 ?_)
    exact bodyPost_ret (results_cell_row Try.results32 _ _ (w.heap.size + 1) _ _ _ _ rfl HE.out.out Try.underlying49 rfl (by rw [HZ.out.2.1]; exact Try.infoPt10)) rfl ⟨_, rfl, HX.out, HE.out.b⟩
  | some A =>
    rw [show (some A : P2).isNone = false from rfl] at HX
    rw [show (some A : P2).isNone = false from rfl]
    have HPr := Lib.hid HX.out.pairs.2
    have HI := Lib.hid (And.intro iq hn)
    have HG0 := Lib.hid (begun2 (Held.none w) (ptC false (.slice A1 n1 c1) (.slice A2 n2 c2) (.slice A3 n3 c3) (.slice A4 n4 c4)) #[.bool false, .slice none 0 0, .slice none 0 0, .slice none 0 0, .slice none 0 0] 49 49)
    clear hge hp iq hn h HX
    unfold minusP PtTo
    go_enter Try.func32, Try.ntmps32
    go_upto_region 1 with (fail)
    generalize (w.alloc _).alloc _ = w0 at *
    have HH := Lib.hid (show _ = some (Obj.cells (ptC false (.slice A1 n1 c1) (.slice A2 n2 c2) (.slice A3 n3 c3) (.slice A4 n4 c4)) 49 (0, 0)) from HG0.out.h _ (.head _))
    have d0 := pt_z HH.out
    go_wp2_with (first | refine load_mid rfl (.tmp 8) rfl w.heap.size 3 _ (.slice A3 n3 c3) (.slice A4 n4 c4) rfl HH.out rfl rfl ?_)
    refine (lneg7_x (HPr.out.2.below HG0.out.b) (HP.out.below HG0.out.b) HI.out.1.2 HI.out.2).mono ?_
    rintro e w1 ⟨v1, rfl, hv1, b1⟩
    obtain ⟨ua, ub, rfl, k1, k2⟩ := hv1
    have K1 := Lib.hid k1
    have K2 := Lib.hid k2
    obtain ⟨A5, n5, c5, rfl⟩ := k1.shape
    obtain ⟨A6, n6, c6, rfl⟩ := k2.shape
    have HX1 := Lib.hid (HPr.out.1.below (bt HG0.out.b b1))
    have HG1 := Lib.hid (HG0.out.on b1)
    have HH1 := Lib.hid (show _ = some (Obj.cells (ptC false (.slice A1 n1 c1) (.slice A2 n2 c2) (.slice A3 n3 c3) (.slice A4 n4 c4)) 49 (0, 0)) from HG1.out.h _ (.head _))
    have HG2 := Lib.hid (HG1.out.putAt (Nat.le_refl _) (fun q hq => by cases hq) (ptC false (.slice A1 n1 c1) (.slice A2 n2 c2) (.slice A5 n5 c5) (.slice A4 n4 c4)))
    have HG3 := Lib.hid (HG2.out.putAt (Nat.le_refl _) (fun q hq => by cases hq) (ptC false (.slice A1 n1 c1) (.slice A2 n2 c2) (.slice A5 n5 c5) (.slice A6 n6 c6)))
    have HH2 := Lib.hid (show _ = some (Obj.cells (ptC false (.slice A1 n1 c1) (.slice A2 n2 c2) (.slice A5 n5 c5) (.slice A4 n4 c4)) 49 (0, 0)) from HG2.out.h _ (.head _))
    have HH3 := Lib.hid (show _ = some (Obj.cells (ptC false (.slice A1 n1 c1) (.slice A2 n2 c2) (.slice A5 n5 c5) (.slice A6 n6 c6)) 49 (0, 0)) from HG3.out.h _ (.head _))
    have HE := Lib.hid (HG3.out.put (Nat.le_succ _) (ptC false (.slice A1 n1 c1) (.slice A2 n2 c2) (.slice A5 n5 c5) (.slice A6 n6 c6)))
    clear b1 k1 k2 d0 HH HG0
    go_wp2_with (first | refine store_y rfl (.tmp 12) (.tmp 11) rfl w.heap.size (.slice A5 n5 c5) (.slice A6 n6 c6) rfl rfl rfl rfl HH1.out ?_ | refine load_v rfl 49 (.tmp 2) rfl w.heap.size (ptC false (.slice A1 n1 c1) (.slice A2 n2 c2) (.slice A5 n5 c5) (.slice A6 n6 c6)) rfl HH3.out Try.underlying49 rfl Try.infoPt10 ?_ | refine store_v rfl 49 (.tmp 4) (.tmp 13) rfl (w.heap.size + 1) _ (ptC false (.slice A1 n1 c1) (.slice A2 n2 c2) (.slice A5 n5 c5) (.slice A6 n6 c6)) rfl rfl HG3.out.out Try.infoPt10 rfl (by kernel_rfl) ?_)
    exact bodyPost_ret (results_cell_row Try.results32 _ _ (w.heap.size + 1) _ _ _ _ rfl HE.out.out Try.underlying49 rfl Try.infoPt10) rfl ⟨_, rfl, PtX.of (((HX1.out.setRow7 HH1.out).setRow7 HH2.out).setRow7 HG3.out.out) (((PairX.setRow7 ⟨_, _, rfl, K1.out, K2.out⟩ HH1.out).setRow7 HH2.out).setRow7 HG3.out.out), HE.out.b⟩
end Go.Proofs.Ytdajgcgliidjbaa
/-
  The contracts of spec's PointOk and NegPoint.
-/
namespace Go.Proofs.Ytdajgcgliidjbaa
open Go.RowKit
theorem nil_text {s : ByteArray} (h : s.toList.isEmpty = true) : s = ⟨#[]⟩ := by
  have h2 := List.isEmpty_iff.1 h
  rw [ByteArray.toList_eq] at h2
  exact ByteArray.ext (Array.toList_eq_nil_iff.1 h2)
theorem val_in {p : Nat} {b : Pn} {Q : P2} (h : onP p b Q) : InO p Q := by
  cases Q with
  | none => trivial
  | some A => exact ⟨h.1, h.2.1⟩
end Go.Proofs.Ytdajgcgliidjbaa

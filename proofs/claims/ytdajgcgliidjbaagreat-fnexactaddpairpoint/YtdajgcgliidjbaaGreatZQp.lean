import Derived.Test.YtdajgcgliidjbaaGreatZQb
import Derived.Test.YtdajgcgliidjbaaGreatZQs
import Derived.Test.YtdajgcgliidjbaaGreatZSp
import Derived.Test.YtdajgcgliidjbaaGreatJPairC
import Derived.Test.YtdajgcgliidjbaaGreatJPairF
set_option maxRecDepth 8000
set_option maxHeartbeats 4000000
namespace Go.Proofs.YtdajgcgliidjbaaGreat
open Go.RowKit
def aggC (q : Pt × ByteArray) : Array Value := #[.string q.1.1, .string q.1.2, .string q.2]
def spQ (q : Tq) (p : ByteArray) : Array Value := #[.bool q.1, .string q.2.1.1, .string q.2.1.2, .string p, .string q.2.2.1, .string q.2.2.2, .string p]
theorem meetsQ_times (v x : Value) (w : World) : (callMethod (.iface 66 v) "loop.example/g00970/impl.times" #[x]).run Tryz.prog w = .ok (.enter 224 #[v, x]) w := by kernel_rfl
theorem meetsQ_plus (v x : Value) (w : World) : (callMethod (.iface 66 v) "loop.example/g00970/impl.plus" #[x]).run Tryz.prog w = .ok (.enter 223 #[v, x]) w := by kernel_rfl
theorem meetsQ_less (v x : Value) (w : World) : (callMethod (.iface 66 v) "loop.example/g00970/impl.less" #[x]).run Tryz.prog w = .ok (.enter 221 #[v, x]) w := by kernel_rfl
theorem meetsQ_negative (v : Value) (w : World) : (callMethod (.iface 66 v) "loop.example/g00970/impl.negative" #[]).run Tryz.prog w = .ok (.enter 222 #[v]) w := by kernel_rfl
theorem meetsQ_inverse (v : Value) (w : World) : (callMethod (.iface 66 v) "loop.example/g00970/impl.inverse" #[]).run Tryz.prog w = .ok (.enter 220 #[v]) w := by kernel_rfl
theorem ld_p2 {L : List (Nat × Array Value × TypeId)} {g k : Nat} {C : Array Value} {t : TypeId} {x : Pt} (hm : (g, C, t) ∈ L) (h0 : C[k]? = some (.string x.1)) (h1 : C[k + 1]? = some (.string x.2)) : ∀ w', Held w' L → (Instr.loadAt 25 (.pointer (some ⟨g, k, none⟩))).run Tryz.prog w' = .ok (.agg (aggT x)) w' := by
 intro w' hw
 have hg := hw _ hm
 have e := run_loadAt_mid (P := Tryz.prog) w' g k 25 [.string x.1, .string x.2] _ (fun j v hv => by
  rw [cell_of_row w' g (k + j) _ _ _ hg]
  match j with
  | 0 => simpa [h0] using hv
  | 1 => simpa [h1] using hv
  | j + 2 => simp at hv) Tryz.underlying25 rfl Tryz.infoP
 show (Instr.loadAt 25 (.pointer (some ⟨g, k, none⟩))).run Tryz.prog w' = .ok (.agg #[.string x.1, .string x.2]) w'
 simpa using e
theorem Tryz.infoRCq : (Tryz.prog.info? 66).map (·.size) = some 3 := by kernel_rfl
theorem Tryz.infoSPq : (Tryz.prog.info? 68).map (·.size) = some 7 := by kernel_rfl
theorem ld_rq {L : List (Nat × Array Value × TypeId)} {g k : Nat} {C : Array Value} {t : TypeId} {x : Pt} {p : ByteArray} (hm : (g, C, t) ∈ L) (h0 : C[k]? = some (.string x.1)) (h1 : C[k + 1]? = some (.string x.2)) (h2 : C[k + 2]? = some (.string p)) : ∀ w', Held w' L → (Instr.loadAt 66 (.pointer (some ⟨g, k, none⟩))).run Tryz.prog w' = .ok (.agg (aggC (x, p))) w' := by
 intro w' hw
 have hg := hw _ hm
 have e := run_loadAt_mid (P := Tryz.prog) w' g k 66 [.string x.1, .string x.2, .string p] _ (fun j v hv => by
  rw [cell_of_row w' g (k + j) _ _ _ hg]
  match j with
  | 0 => simpa [h0] using hv
  | 1 => simpa [h1] using hv
  | 2 => simpa [h2] using hv
  | j + 3 => simp at hv) Tryz.underlying66 rfl Tryz.infoRCq
 show (Instr.loadAt 66 (.pointer (some ⟨g, k, none⟩))).run Tryz.prog w' = .ok (.agg #[.string x.1, .string x.2, .string p]) w'
 simpa using e
theorem ld_spq {L : List (Nat × Array Value × TypeId)} {g : Nat} {C : Array Value} {t : TypeId} (hm : (g, C, t) ∈ L) (hs : Nat.beq C.size 7 = true) : ∀ w', Held w' L → (Instr.loadAt 68 (.pointer (some ⟨g, 0, none⟩))).run Tryz.prog w' = .ok (.agg C) w' :=
 fun w' hw => cells_load (hw _ hm) Tryz.underlying68 rfl (by rw [Nat.eq_of_beq_eq_true hs]; exact Tryz.infoSPq)
theorem zero_rq (w : World) : (zeroValue 66).run Tryz.prog w = .ok (.agg (aggC (noP, ⟨#[]⟩))) w := by kernel_rfl
theorem Tryz.partsRCq : (structParts Tryz.prog 66).map (fun q => (q.1.cells.toList, q.2)) = some ([.string ⟨#[]⟩, .string ⟨#[]⟩, .string ⟨#[]⟩], [(0, 2), (2, 1)]) := by kernel_rfl
theorem Tryz.partsSPq : (structParts Tryz.prog 68).map (fun q => (q.1.cells.toList, q.2)) = some ([.bool false, .string ⟨#[]⟩, .string ⟨#[]⟩, .string ⟨#[]⟩, .string ⟨#[]⟩, .string ⟨#[]⟩, .string ⟨#[]⟩], [(0, 1), (1, 3), (4, 3)]) := by kernel_rfl
theorem built_rq (x : Pt) (p : ByteArray) : Tryz.prog.built 66 [(0, .agg (aggT x)), (1, .string p)] = some (aggC (x, p)) := by
 cases hq : structParts Tryz.prog 66 with
 | none => have e := Tryz.partsRCq; rw [hq] at e; cases e
 | some q =>
  obtain ⟨zz, pl⟩ := q
  have e := Tryz.partsRCq
  rw [hq] at e
  simp only [Option.map_some, Option.some.injEq, Prod.mk.injEq] at e
  obtain ⟨e1, rfl⟩ := e
  rw [built_parts hq]
  have ez : zz.cells = #[] ++ #[.string ⟨#[]⟩, .string ⟨#[]⟩] ++ #[.string ⟨#[]⟩] := Array.ext' (by rw [e1]; rfl)
  rw [ez, fill_step (R := aggT x) (off := 0) (n := 2) rfl rfl rfl rfl rfl]
  have e2 : (#[] ++ aggT x ++ #[.string ⟨#[]⟩] : Array Value) = #[.string x.1, .string x.2] ++ #[.string ⟨#[]⟩] ++ #[] := rfl
  rw [e2, fill_step (R := #[.string p]) (off := 2) (n := 1) rfl rfl rfl rfl rfl]
  rfl
theorem built_spq (x y : Pt) (p : ByteArray) : Tryz.prog.built 68 [(1, .agg (aggC (x, p))), (2, .agg (aggC (y, p)))] = some (spQ (false, x, y) p) := by
 cases hq : structParts Tryz.prog 68 with
 | none => have e := Tryz.partsSPq; rw [hq] at e; cases e
 | some q =>
  obtain ⟨zz, pl⟩ := q
  have e := Tryz.partsSPq
  rw [hq] at e
  simp only [Option.map_some, Option.some.injEq, Prod.mk.injEq] at e
  obtain ⟨e1, rfl⟩ := e
  rw [built_parts hq]
  have ez : zz.cells = #[.bool false] ++ #[.string ⟨#[]⟩, .string ⟨#[]⟩, .string ⟨#[]⟩] ++ #[.string ⟨#[]⟩, .string ⟨#[]⟩, .string ⟨#[]⟩] := Array.ext' (by rw [e1]; rfl)
  rw [ez, fill_step (R := aggC (x, p)) (off := 1) (n := 3) rfl rfl rfl rfl rfl]
  have e2 : (#[.bool false] ++ aggC (x, p) ++ #[.string ⟨#[]⟩, .string ⟨#[]⟩, .string ⟨#[]⟩] : Array Value) = #[.bool false, .string x.1, .string x.2, .string p] ++ #[.string ⟨#[]⟩, .string ⟨#[]⟩, .string ⟨#[]⟩] ++ #[] := rfl
  rw [e2, fill_step (R := aggC (y, p)) (off := 4) (n := 3) rfl rfl rfl rfl rfl]
  rfl
theorem built_szq : Tryz.prog.built 68 [(0, .bool true)] = some (spQ zeroQ ⟨#[]⟩) := by
 cases hq : structParts Tryz.prog 68 with
 | none => have e := Tryz.partsSPq; rw [hq] at e; cases e
 | some q =>
  obtain ⟨zz, pl⟩ := q
  have e := Tryz.partsSPq
  rw [hq] at e
  simp only [Option.map_some, Option.some.injEq, Prod.mk.injEq] at e
  obtain ⟨e1, rfl⟩ := e
  rw [built_parts hq]
  have ez : zz.cells = #[] ++ #[.bool false] ++ #[.string ⟨#[]⟩, .string ⟨#[]⟩, .string ⟨#[]⟩, .string ⟨#[]⟩, .string ⟨#[]⟩, .string ⟨#[]⟩] := Array.ext' (by rw [e1]; rfl)
  rw [ez, fill_step (R := #[.bool true]) (off := 0) (n := 1) rfl rfl rfl rfl rfl]
  rfl
theorem yields_eqRq {ops : Array Oper} {S : World → Prop} {o : Oper} {a : Act} (hw : Region.wanted o (yielded ops a.tmps) = true) (x y : Operand) (ho : o.op = .binOp .eql 66 x y 66) (s t : Pt × ByteArray) (b : Bool) (hb : decide (s = t) = b)
  (hx : a.eval x = .agg (aggC s)) (hy : a.eval y = .agg (aggC t)) : YieldsIf Tryz.prog ops S o (.bool b) a := by
 refine .inl ⟨hw, fun w _ => ?_⟩
 unfold aggC at hx hy
 unfold execOp
 simp only [ho, hx, hy]
 go_simp
 subst hb
 by_cases h0 : s.1.1 = t.1.1
 ·skip
  by_cases h1 : s.1.2 = t.1.2
  ·skip
   by_cases h2 : s.2 = t.2
   ·skip
    have e : s = t := Prod.ext (Prod.ext h0 h1) h2
    obtain rfl := e
    simp
   ·have e : s ≠ t := fun e => h2 (by rw [e])
    have k1 : ¬ s.2.toList = t.2.toList := fun q => h2 (bl_iff.1 q)
    simp [h0, h1, k1, e]
  ·have e : s ≠ t := fun e => h1 (by rw [e])
   have k1 : ¬ s.1.2.toList = t.1.2.toList := fun q => h1 (bl_iff.1 q)
   simp [h0, k1, e]
 ·have e : s ≠ t := fun e => h0 (by rw [e])
  have k1 : ¬ s.1.1.toList = t.1.1.toList := fun q => h0 (bl_iff.1 q)
  simp [k1, e]
theorem yields_eqSq {ops : Array Oper} {S : World → Prop} {o : Oper} {a : Act} (hw : Region.wanted o (yielded ops a.tmps) = true) (x y : Operand) (ho : o.op = .binOp .eql 68 x y 68) (s t : Tq) (p : ByteArray) (b : Bool) (hb : decide (s = t) = b)
  (hx : a.eval x = .agg (spQ s p)) (hy : a.eval y = .agg (spQ t p)) : YieldsIf Tryz.prog ops S o (.bool b) a := by
 refine .inl ⟨hw, fun w _ => ?_⟩
 unfold spQ at hx hy
 unfold execOp
 simp only [ho, hx, hy]
 go_simp
 subst hb
 by_cases h0 : s.1 = t.1
 ·skip
  by_cases h1 : s.2.1.1 = t.2.1.1
  ·skip
   by_cases h2 : s.2.1.2 = t.2.1.2
   ·skip
    by_cases h3 : s.2.2.1 = t.2.2.1
    ·skip
     by_cases h4 : s.2.2.2 = t.2.2.2
     ·skip
      have e : s = t := Prod.ext h0 (Prod.ext (Prod.ext h1 h2) (Prod.ext h3 h4))
      obtain rfl := e
      simp
     ·have e : s ≠ t := fun e => h4 (by rw [e])
      have k1 : ¬ s.2.2.2.toList = t.2.2.2.toList := fun q => h4 (bl_iff.1 q)
      simp [h0, h1, h2, h3, k1, e]
    ·have e : s ≠ t := fun e => h3 (by rw [e])
     have k1 : ¬ s.2.2.1.toList = t.2.2.1.toList := fun q => h3 (bl_iff.1 q)
     simp [h0, h1, h2, k1, e]
   ·have e : s ≠ t := fun e => h2 (by rw [e])
    have k1 : ¬ s.2.1.2.toList = t.2.1.2.toList := fun q => h2 (bl_iff.1 q)
    simp [h0, h1, k1, e]
  ·have e : s ≠ t := fun e => h1 (by rw [e])
   have k1 : ¬ s.2.1.1.toList = t.2.1.1.toList := fun q => h1 (bl_iff.1 q)
   simp [h0, k1, e]
 ·have e : s ≠ t := fun e => h0 (by rw [e])
  simp [h0, e]
theorem pc_plus (x : Pt) (p : ByteArray) (y : Pt) (q : ByteArray) (w : World) : Calls Tryz.prog 223 #[.agg (aggC (x, p)), .agg (aggC (y, q))] w fun e w' => e = .returned (.agg (aggC (addPG x y p, p))) ∧ Below w.heap.size w w' := by
 have HO := Lib.hid (addPair_i x y p)
 have HG0 := Lib.hid (begun3 (Held.none w) (aggC (x, p)) (aggC (y, q)) #[.string ⟨#[]⟩, .string ⟨#[]⟩, .string ⟨#[]⟩] 66 66 66).drew
 have HS0 := Lib.hid HG0.out.h
 have hge : w.heap.size ≤ w.heap.size + 1 + 1 := by omega
 generalize addPG x y p = r at *
 go_enter Tryz.func223, Tryz.ntmps223
 go_wp2_with fail
 generalize ((w.alloc _).alloc _).alloc _ = w0 at *
 refine sq_gok (S := fun w' => Held w' [(w.heap.size + 1, aggC (y, q), 66), (w.heap.size, aggC (x, p), 66)]) [(true, 0), (true, 1), (true, 2), (true, 3), (true, 4), (true, 5), (true, 7), (true, 8), (false, 6), (true, 9), (false, 10)] HS0.out ?_
 refine sq_psk [(0, .pointer (some ⟨w.heap.size, 0, none⟩))] ?_
 refine sq_ldk (some 6) (ld_p2 (.tail _ (.head _)) (k := 0) rfl rfl) ?_
 refine sq_psk [(2, .pointer (some ⟨(w.heap.size + 1), 0, none⟩))] ?_
 refine sq_ldk (some 8) (ld_p2 (.head _) (k := 0) rfl rfl) ?_
 refine sq_psk [(4, .pointer (some ⟨w.heap.size, 2, none⟩))] ?_
 refine sq_ldk (some 10) (ld_s (.tail _ (.head _)) (k := 2) rfl) ?_
 refine sq_psk [(7, .pointer (some ⟨w.heap.size, 2, none⟩))] ?_
 refine sq_ldk (some 13) (ld_s (.tail _ (.head _)) (k := 2) rfl) ?_
 refine sq_ck (some 11) Tryz.func72 (HO.out _) ?_
 rintro e v1 ⟨rfl, bw1⟩
 have HG1 := Lib.hid (HG0.out.on bw1)
 have HS1 := Lib.hid HG1.out.h
 refine ⟨_, rfl, HS1.out, ?_⟩
 refine sq_pure (some 14) (.agg (aggC (r, p))) (by kernel_rfl) (by kernel_rfl) (held_build 66 #[(0, (.tmp 11)), (1, (.tmp 13))] (by kernel_rfl) _ (by kernel_rfl) _ (built_rq r p)) ?_
 have HE := Lib.hid (HG1.out.put hge (aggC (r, p)))
 refine sq_stk 66 (w.heap.size + 1 + 1) (aggC (r, p)) HG1.out.out Tryz.infoRCq rfl (HS1.out.setRow HG1.out.ne) ?_
 refine sq_done ?_
 refine ‹∀ a w, Code.wp _ Code.ret _ a w → _› _ _ ?_
 refine wp_ret ?_
 exact bodyPost_ret (results_cell_row Tryz.results223 _ _ (w.heap.size + 1 + 1) _ _ _ _ (by kernel_rfl) HE.out.out Tryz.underlying66 rfl Tryz.infoRCq) (by kernel_rfl) ⟨rfl, HE.out.b⟩
theorem pc_less (x : Pt) (p : ByteArray) (y : Pt) (q : ByteArray) (w : World) : Calls Tryz.prog 221 #[.agg (aggC (x, p)), .agg (aggC (y, q))] w fun e w' => e = .returned (.agg (aggC (subPG x y p, p))) ∧ Below w.heap.size w w' := by
 have HO := Lib.hid (subPair_i x y p)
 have HG0 := Lib.hid (begun3 (Held.none w) (aggC (x, p)) (aggC (y, q)) #[.string ⟨#[]⟩, .string ⟨#[]⟩, .string ⟨#[]⟩] 66 66 66).drew
 have HS0 := Lib.hid HG0.out.h
 have hge : w.heap.size ≤ w.heap.size + 1 + 1 := by omega
 generalize subPG x y p = r at *
 go_enter Tryz.func221, Tryz.ntmps221
 go_wp2_with fail
 generalize ((w.alloc _).alloc _).alloc _ = w0 at *
 refine sq_gok (S := fun w' => Held w' [(w.heap.size + 1, aggC (y, q), 66), (w.heap.size, aggC (x, p), 66)]) [(true, 0), (true, 1), (true, 2), (true, 3), (true, 4), (true, 5), (true, 7), (true, 8), (false, 6), (true, 9), (false, 10)] HS0.out ?_
 refine sq_psk [(0, .pointer (some ⟨w.heap.size, 0, none⟩))] ?_
 refine sq_ldk (some 6) (ld_p2 (.tail _ (.head _)) (k := 0) rfl rfl) ?_
 refine sq_psk [(2, .pointer (some ⟨(w.heap.size + 1), 0, none⟩))] ?_
 refine sq_ldk (some 8) (ld_p2 (.head _) (k := 0) rfl rfl) ?_
 refine sq_psk [(4, .pointer (some ⟨w.heap.size, 2, none⟩))] ?_
 refine sq_ldk (some 10) (ld_s (.tail _ (.head _)) (k := 2) rfl) ?_
 refine sq_psk [(7, .pointer (some ⟨w.heap.size, 2, none⟩))] ?_
 refine sq_ldk (some 13) (ld_s (.tail _ (.head _)) (k := 2) rfl) ?_
 refine sq_ck (some 11) Tryz.func73 (HO.out _) ?_
 rintro e v1 ⟨rfl, bw1⟩
 have HG1 := Lib.hid (HG0.out.on bw1)
 have HS1 := Lib.hid HG1.out.h
 refine ⟨_, rfl, HS1.out, ?_⟩
 refine sq_pure (some 14) (.agg (aggC (r, p))) (by kernel_rfl) (by kernel_rfl) (held_build 66 #[(0, (.tmp 11)), (1, (.tmp 13))] (by kernel_rfl) _ (by kernel_rfl) _ (built_rq r p)) ?_
 have HE := Lib.hid (HG1.out.put hge (aggC (r, p)))
 refine sq_stk 66 (w.heap.size + 1 + 1) (aggC (r, p)) HG1.out.out Tryz.infoRCq rfl (HS1.out.setRow HG1.out.ne) ?_
 refine sq_done ?_
 refine ‹∀ a w, Code.wp _ Code.ret _ a w → _› _ _ ?_
 refine wp_ret ?_
 exact bodyPost_ret (results_cell_row Tryz.results221 _ _ (w.heap.size + 1 + 1) _ _ _ _ (by kernel_rfl) HE.out.out Tryz.underlying66 rfl Tryz.infoRCq) (by kernel_rfl) ⟨rfl, HE.out.b⟩
theorem pc_times (x : Pt) (p : ByteArray) (y : Pt) (q : ByteArray) (w : World) : Calls Tryz.prog 224 #[.agg (aggC (x, p)), .agg (aggC (y, q))] w fun e w' => e = .returned (.agg (aggC (mulPG x y p, p))) ∧ Below w.heap.size w w' := by
 have HO := Lib.hid (mulPair_i x y p)
 have HG0 := Lib.hid (begun3 (Held.none w) (aggC (x, p)) (aggC (y, q)) #[.string ⟨#[]⟩, .string ⟨#[]⟩, .string ⟨#[]⟩] 66 66 66).drew
 have HS0 := Lib.hid HG0.out.h
 have hge : w.heap.size ≤ w.heap.size + 1 + 1 := by omega
 generalize mulPG x y p = r at *
 go_enter Tryz.func224, Tryz.ntmps224
 go_wp2_with fail
 generalize ((w.alloc _).alloc _).alloc _ = w0 at *
 refine sq_gok (S := fun w' => Held w' [(w.heap.size + 1, aggC (y, q), 66), (w.heap.size, aggC (x, p), 66)]) [(true, 0), (true, 1), (true, 2), (true, 3), (true, 4), (true, 5), (true, 7), (true, 8), (false, 6), (true, 9), (false, 10)] HS0.out ?_
 refine sq_psk [(0, .pointer (some ⟨w.heap.size, 0, none⟩))] ?_
 refine sq_ldk (some 6) (ld_p2 (.tail _ (.head _)) (k := 0) rfl rfl) ?_
 refine sq_psk [(2, .pointer (some ⟨(w.heap.size + 1), 0, none⟩))] ?_
 refine sq_ldk (some 8) (ld_p2 (.head _) (k := 0) rfl rfl) ?_
 refine sq_psk [(4, .pointer (some ⟨w.heap.size, 2, none⟩))] ?_
 refine sq_ldk (some 10) (ld_s (.tail _ (.head _)) (k := 2) rfl) ?_
 refine sq_psk [(7, .pointer (some ⟨w.heap.size, 2, none⟩))] ?_
 refine sq_ldk (some 13) (ld_s (.tail _ (.head _)) (k := 2) rfl) ?_
 refine sq_ck (some 11) Tryz.func39 (HO.out _) ?_
 rintro e v1 ⟨rfl, bw1⟩
 have HG1 := Lib.hid (HG0.out.on bw1)
 have HS1 := Lib.hid HG1.out.h
 refine ⟨_, rfl, HS1.out, ?_⟩
 refine sq_pure (some 14) (.agg (aggC (r, p))) (by kernel_rfl) (by kernel_rfl) (held_build 66 #[(0, (.tmp 11)), (1, (.tmp 13))] (by kernel_rfl) _ (by kernel_rfl) _ (built_rq r p)) ?_
 have HE := Lib.hid (HG1.out.put hge (aggC (r, p)))
 refine sq_stk 66 (w.heap.size + 1 + 1) (aggC (r, p)) HG1.out.out Tryz.infoRCq rfl (HS1.out.setRow HG1.out.ne) ?_
 refine sq_done ?_
 refine ‹∀ a w, Code.wp _ Code.ret _ a w → _› _ _ ?_
 refine wp_ret ?_
 exact bodyPost_ret (results_cell_row Tryz.results224 _ _ (w.heap.size + 1 + 1) _ _ _ _ (by kernel_rfl) HE.out.out Tryz.underlying66 rfl Tryz.infoRCq) (by kernel_rfl) ⟨rfl, HE.out.b⟩
theorem pc_negative (x : Pt) (p : ByteArray) (w : World) : Calls Tryz.prog 222 #[.agg (aggC (x, p))] w fun e w' => e = .returned (.agg (aggC (negPG x p, p))) ∧ Below w.heap.size w w' := by
 have HO := Lib.hid (negPair_i x p)
 have HG0 := Lib.hid (begun2 (Held.none w) (aggC (x, p)) #[.string ⟨#[]⟩, .string ⟨#[]⟩, .string ⟨#[]⟩] 66 66).drew
 have HS0 := Lib.hid HG0.out.h
 have hge : w.heap.size ≤ w.heap.size + 1 := by omega
 generalize negPG x p = r at *
 go_enter Tryz.func222, Tryz.ntmps222
 go_wp2_with fail
 generalize (w.alloc _).alloc _ = w0 at *
 refine sq_gok (S := fun w' => Held w' [(w.heap.size, aggC (x, p), 66)]) [(true, 0), (true, 1), (true, 2), (true, 3), (true, 5), (true, 6), (false, 4), (true, 7), (false, 8)] HS0.out ?_
 refine sq_psk [(0, .pointer (some ⟨w.heap.size, 0, none⟩))] ?_
 refine sq_ldk (some 4) (ld_p2 (.head _) (k := 0) rfl rfl) ?_
 refine sq_psk [(2, .pointer (some ⟨w.heap.size, 2, none⟩))] ?_
 refine sq_ldk (some 6) (ld_s (.head _) (k := 2) rfl) ?_
 refine sq_psk [(5, .pointer (some ⟨w.heap.size, 2, none⟩))] ?_
 refine sq_ldk (some 9) (ld_s (.head _) (k := 2) rfl) ?_
 refine sq_ck (some 7) Tryz.func41 (HO.out _) ?_
 rintro e v1 ⟨rfl, bw1⟩
 have HG1 := Lib.hid (HG0.out.on bw1)
 have HS1 := Lib.hid HG1.out.h
 refine ⟨_, rfl, HS1.out, ?_⟩
 refine sq_pure (some 10) (.agg (aggC (r, p))) (by kernel_rfl) (by kernel_rfl) (held_build 66 #[(0, (.tmp 7)), (1, (.tmp 9))] (by kernel_rfl) _ (by kernel_rfl) _ (built_rq r p)) ?_
 have HE := Lib.hid (HG1.out.put hge (aggC (r, p)))
 refine sq_stk 66 (w.heap.size + 1) (aggC (r, p)) HG1.out.out Tryz.infoRCq rfl (HS1.out.setRow HG1.out.ne) ?_
 refine sq_done ?_
 refine ‹∀ a w, Code.wp _ Code.ret _ a w → _› _ _ ?_
 refine wp_ret ?_
 exact bodyPost_ret (results_cell_row Tryz.results222 _ _ (w.heap.size + 1) _ _ _ _ (by kernel_rfl) HE.out.out Tryz.underlying66 rfl Tryz.infoRCq) (by kernel_rfl) ⟨rfl, HE.out.b⟩
theorem pc_inverse (x : Pt) (p : ByteArray) (w : World) : Calls Tryz.prog 220 #[.agg (aggC (x, p))] w fun e w' => e = .returned (.agg (aggC (invPG x p, p))) ∧ Below w.heap.size w w' := by
 have HO := Lib.hid (inversePair_i x p)
 unfold InvPPost at HO
 have HG := Lib.hid (begun2 (Held.none w) (aggC (x, p)) #[.string ⟨#[]⟩, .string ⟨#[]⟩, .string ⟨#[]⟩] 66 66)
 have hge : w.heap.size ≤ w.heap.size + 1 := by omega
 generalize invPG x p = r at *
 generalize invPB x p = bv at *
 go_enter Tryz.func220, Tryz.ntmps220
 go_upto_region 1 with (fail)
 generalize (w.alloc _).alloc _ = w0 at *
 have HS := Lib.hid HG.out.h
 refine wp_region_linek (S := fun w' => Held w' [(w.heap.size, aggC (x, p), 66)]) [(true, 0), (true, 1), (true, 2), (true, 3), (false, 4), (true, 5), (true, 6), (true, 7), (false, 8), (false, 9), (true, 10)] HS.out ?_
 refine sq_psk [(0, .pointer (some ⟨w.heap.size, 0, none⟩))] ?_
 refine sq_ldk (some 7) (ld_p2 (.head _) (k := 0) rfl rfl) ?_
 refine sq_psk [(2, .pointer (some ⟨w.heap.size, 2, none⟩))] ?_
 refine sq_ldk (some 9) (ld_s (.head _) (k := 2) rfl) ?_
 refine sq_ck (some 10) Tryz.func225 (HO.out _) ?_
 rintro e v1 ⟨rfl, bw⟩
 replace HG := Lib.hid (HG.out.on bw)
 have HS := Lib.hid (HG.out.h)
 clear bw
 refine ⟨_, rfl, HS.out, ?_⟩
 refine sq_psk [(5, .tuple #[.agg (aggT r), .bool bv]), (6, .agg (aggT r)), (7, .bool bv)] ?_
 have GEg2 := Lib.hid HG.out.b.size
 have APg2 := Lib.hid HG.out.h.apart
 replace HG := Lib.hid (HG.out.new (aggT noP) 25)
 have HS := Lib.hid (HG.out.h.tail)
 refine sq_allock (some 3) 25 (aggT noP) (zero_pr _) HS.out ?_
 generalize v1.alloc _ = u2 at *
 generalize v1.heap.size = g2 at *
 have HN := Lib.hid (HG.out.h _ (.head _))
 replace HG := Lib.hid (HG.out.putAt GEg2.out APg2.out (aggT r))
 have HS := Lib.hid (HG.out.h.tail)
 refine sq_stk 25 g2 (aggT r) HN.out Tryz.infoP rfl HS.out ?_
 clear HN
 generalize World.setRow _ g2 _ = t3 at *
 refine sq_psk [(10, .bool bv)] ?_
 refine sq_fink { tmps := List.toArray ([.agg (aggC (x, p)), .pointer (some ⟨w.heap.size, 0, none⟩), .pointer (some ⟨(w.heap.size + 1), 0, none⟩), .pointer (some ⟨g2, 0, none⟩), .bool bv, .tuple #[.agg (aggT r), .bool bv], .pointer (some ⟨w.heap.size, 0, none⟩), .agg (aggT x), .pointer (some ⟨w.heap.size, 2, none⟩), .string p, .tuple #[.agg (aggT r), .bool bv], .agg (aggT r), .bool bv, undef, undef, undef, undef]), defers := [] } ?_
 refine ‹∀ a w, Code.wp _ _ _ a w → _› _ _ ?_
 go_upto_region 2 with (fail)
 replace HS := Lib.hid HG.out.h
 refine wp_region_linek (S := fun w' => Held w' [(g2, aggT r, 25), (w.heap.size, aggC (x, p), 66)]) [(true, 0), (true, 1), (true, 2), (true, 3), (false, 4)] HS.out ?_
 refine sq_ldk (some 13) (ld_p2 (.head _) (k := 0) rfl rfl) ?_
 refine sq_psk [(1, .pointer (some ⟨w.heap.size, 2, none⟩))] ?_
 refine sq_ldk (some 15) (ld_s (.tail _ (.head _)) (k := 2) rfl) ?_
 refine sq_pure (some 16) (.agg (aggC (r, p))) (by kernel_rfl) (by kernel_rfl) (held_build 66 #[(0, (.tmp 13)), (1, (.tmp 15))] (by kernel_rfl) _ (by kernel_rfl) _ (built_rq _ _)) ?_
 have HE := Lib.hid (HG.out.put hge (aggC (r, p)))
 refine sq_stk 66 (w.heap.size + 1) (aggC (r, p)) HG.out.out Tryz.infoRCq rfl ((HG.out.h).setRow (HG.out.ne)) ?_
 refine sq_done ?_
 refine ‹∀ a w, Code.wp _ Code.ret _ a w → _› _ _ ?_
 refine wp_ret ?_
 exact bodyPost_ret (results_cell_row Tryz.results220 _ _ (w.heap.size + 1) _ _ _ _ (by kernel_rfl) HE.out.out Tryz.underlying66 rfl Tryz.infoRCq) (by kernel_rfl) ⟨rfl, HE.out.b⟩
theorem spotQ_slope (p : ByteArray) (x1 y1 x2 y2 : Pt) (w : World) : Calls Tryz.prog 66 #[.agg (spQ (false, x1, y1) p), .agg (spQ (false, x2, y2) p)] w fun e w' => e = .returned (.agg (aggC (slopeQ p x1 y1 x2 y2, p))) ∧ Below w.heap.size w w' := by
 unfold slopeQ
 by_cases h : x1 = x2 ∧ y1 = y2
 ·rw [if_pos h]
  have hd : decide (((false, x1, y1) : Tq) = (false, x2, y2)) = true := by rw [h.1, h.2]; simp
  clear h
  have HG := Lib.hid (begun3 (Held.none w) (spQ (false, x1, y1) p) (spQ (false, x2, y2) p) #[.string ⟨#[]⟩, .string ⟨#[]⟩, .string ⟨#[]⟩] 68 68 66)
  have hge : w.heap.size ≤ w.heap.size + 1 + 1 := by omega
  go_enter Tryz.func66, Tryz.ntmps66
  go_upto_region 1 with (fail)
  generalize ((w.alloc _).alloc _).alloc _ = w0 at *
  have HS := Lib.hid HG.out.h
  refine wp_region_linek (S := fun w' => Held w' [(w.heap.size + 1, spQ (false, x2, y2) p, 68), (w.heap.size, spQ (false, x1, y1) p, 68)]) [(true, 0), (true, 1), (true, 2)] HS.out ?_
  refine sq_ldk (some 6) (ld_spq (.tail _ (.head _)) (by kernel_rfl)) ?_
  refine sq_ldk (some 7) (ld_spq (.head _) (by kernel_rfl)) ?_
  refine sq_take (some 8) (.bool true) (by kernel_rfl) (yields_eqSq (by kernel_rfl) (.tmp 6) (.tmp 7) (by kernel_rfl) (false, x1, y1) (false, x2, y2) p true hd (by kernel_rfl) (by kernel_rfl)) ?_
  refine sq_fink { tmps := List.toArray (List.append [.agg (spQ (false, x1, y1) p), .agg (spQ (false, x2, y2) p), .pointer (some ⟨w.heap.size, 0, none⟩), .pointer (some ⟨(w.heap.size + 1), 0, none⟩), .pointer (some ⟨(w.heap.size + 1 + 1), 0, none⟩), undef, .agg (spQ (false, x1, y1) p), .agg (spQ (false, x2, y2) p), .bool true, undef, undef, undef, undef, undef, undef, undef, undef, undef, undef, undef, undef, undef, undef, undef, undef, undef, undef, undef, undef, undef, undef, undef, undef, undef, undef, undef, undef, undef, undef, undef] ([undef, undef, undef, undef, undef, undef, undef, undef])), defers := [] } ?_
  refine ‹∀ a w, Code.wp _ _ _ a w → _› _ _ ?_
  go_upto_region 2 with (fail)
  replace HS := Lib.hid HG.out.h
  refine wp_region_linek (S := fun w' => Held w' [(w.heap.size + 1, spQ (false, x2, y2) p, 68), (w.heap.size, spQ (false, x1, y1) p, 68)]) [(true, 0), (true, 1), (true, 2), (true, 3), (true, 4), (false, 5), (false, 6), (false, 7)] HS.out ?_
  refine sq_psk [(0, .pointer (some ⟨w.heap.size, 1, none⟩))] ?_
  refine sq_ldk (some 10) (ld_rq (.tail _ (.head _)) (k := 1) rfl rfl rfl) ?_
  refine sq_psk [(2, .iface 66 (.agg (aggC (x1, p)))), (3, .pointer (some ⟨w.heap.size, 1, none⟩))] ?_
  refine sq_ldk (some 13) (ld_rq (.tail _ (.head _)) (k := 1) rfl rfl rfl) ?_
  refine sq_ci (some 14) (meetsQ_times _ _) (pc_times (x1) (p) (x1) (p) _) (by kernel_rfl) ?_
  rintro e v1 ⟨rfl, bw⟩
  replace HG := Lib.hid (HG.out.on bw)
  have HS := Lib.hid (HG.out.h)
  clear bw
  refine ⟨_, rfl, HS.out, ?_⟩
  have GEg2 := Lib.hid HG.out.b.size
  have APg2 := Lib.hid HG.out.h.apart
  replace HG := Lib.hid (HG.out.new (aggC (noP, ⟨#[]⟩)) 66)
  have HS := Lib.hid (HG.out.h.tail)
  refine sq_allock (some 5) 66 (aggC (noP, ⟨#[]⟩)) (zero_rq _) HS.out ?_
  generalize v1.alloc _ = u2 at *
  generalize v1.heap.size = g2 at *
  have HN := Lib.hid (HG.out.h _ (.head _))
  replace HG := Lib.hid (HG.out.putAt GEg2.out APg2.out (aggC (mulPG (x1) (x1) p, p)))
  have HS := Lib.hid (HG.out.h.tail)
  refine sq_stk 66 g2 (aggC (mulPG (x1) (x1) p, p)) HN.out Tryz.infoRCq rfl HS.out ?_
  clear HN
  generalize World.setRow _ g2 _ = t3 at *
  refine sq_fink { tmps := List.toArray (List.append [.agg (spQ (false, x1, y1) p), .agg (spQ (false, x2, y2) p), .pointer (some ⟨w.heap.size, 0, none⟩), .pointer (some ⟨(w.heap.size + 1), 0, none⟩), .pointer (some ⟨(w.heap.size + 1 + 1), 0, none⟩), .pointer (some ⟨g2, 0, none⟩), .agg (spQ (false, x1, y1) p), .agg (spQ (false, x2, y2) p), .bool true, .pointer (some ⟨w.heap.size, 1, none⟩), .agg (aggC (x1, p)), .iface 66 (.agg (aggC (x1, p))), .pointer (some ⟨w.heap.size, 1, none⟩), .agg (aggC (x1, p)), .agg (aggC (mulPG (x1) (x1) p, p)), undef, undef, undef, undef, undef, undef, undef, undef, undef, undef, undef, undef, undef, undef, undef, undef, undef, undef, undef, undef, undef, undef, undef, undef, undef] ([undef, undef, undef, undef, undef, undef, undef, undef])), defers := [] } ?_
  refine ‹∀ a w, Code.wp _ _ _ a w → _› _ _ ?_
  go_upto_region 3 with (fail)
  replace HS := Lib.hid HG.out.h
  replace HG := Lib.hid HG.out.drew
  replace HS := Lib.hid HG.out.h
  refine sq_gok (S := fun w' => Held w' [(g2, aggC (mulPG (x1) (x1) p, p), 66), (w.heap.size + 1, spQ (false, x2, y2) p, 68), (w.heap.size, spQ (false, x1, y1) p, 68)]) [(true, 0), (true, 1), (true, 2), (true, 5), (true, 8), (true, 9), (true, 10), (true, 11), (true, 12), (false, 3), (true, 4), (false, 6), (true, 7), (false, 13), (true, 14), (false, 15), (false, 16), (false, 17)] HS.out ?_
  refine sq_ldk (some 15) (ld_rq (.head _) (k := 0) rfl rfl rfl) ?_
  refine sq_psk [(1, .iface 66 (.agg (aggC ((mulPG (x1) (x1) p), (p)))))] ?_
  refine sq_ldk (some 17) (ld_rq (.head _) (k := 0) rfl rfl rfl) ?_
  refine sq_ldk (some 20) (ld_rq (.head _) (k := 0) rfl rfl rfl) ?_
  refine sq_psk [(8, .pointer (some ⟨w.heap.size, 4, none⟩))] ?_
  refine sq_ldk (some 24) (ld_rq (.tail _ (.tail _ (.head _))) (k := 4) rfl rfl rfl) ?_
  refine sq_psk [(10, .iface 66 (.agg (aggC (y1, p)))), (11, .pointer (some ⟨w.heap.size, 4, none⟩))] ?_
  refine sq_ldk (some 27) (ld_rq (.tail _ (.tail _ (.head _))) (k := 4) rfl rfl rfl) ?_
  refine sq_ci (some 18) (meetsQ_plus _ _) (pc_plus ((mulPG (x1) (x1) p)) ((p)) ((mulPG (x1) (x1) p)) ((p)) _) (by kernel_rfl) ?_
  rintro e v4 ⟨rfl, bw⟩
  replace HG := Lib.hid (HG.out.on bw)
  have HS := Lib.hid (HG.out.h)
  clear bw
  refine ⟨_, rfl, HS.out, ?_⟩
  refine sq_psk [(4, .iface 66 (.agg (aggC (addPG ((mulPG (x1) (x1) p)) ((mulPG (x1) (x1) p)) (p), (p)))))] ?_
  refine sq_ci (some 21) (meetsQ_plus _ _) (pc_plus (addPG ((mulPG (x1) (x1) p)) ((mulPG (x1) (x1) p)) (p)) ((p)) ((mulPG (x1) (x1) p)) ((p)) _) (by kernel_rfl) ?_
  rintro e v5 ⟨rfl, bw⟩
  replace HG := Lib.hid (HG.out.on bw)
  have HS := Lib.hid (HG.out.h)
  clear bw
  refine ⟨_, rfl, HS.out, ?_⟩
  refine sq_psk [(7, .iface 66 (.agg (aggC (addPG (addPG ((mulPG (x1) (x1) p)) ((mulPG (x1) (x1) p)) (p)) ((mulPG (x1) (x1) p)) (p), (p)))))] ?_
  refine sq_ci (some 28) (meetsQ_plus _ _) (pc_plus (y1) (p) (y1) (p) _) (by kernel_rfl) ?_
  rintro e v6 ⟨rfl, bw⟩
  replace HG := Lib.hid (HG.out.on bw)
  have HS := Lib.hid (HG.out.h)
  clear bw
  refine ⟨_, rfl, HS.out, ?_⟩
  refine sq_psk [(14, .iface 66 (.agg (aggC (addPG (y1) (y1) p, p))))] ?_
  refine sq_ci (some 30) (meetsQ_inverse _) (pc_inverse (addPG (y1) (y1) p) (p) _) (by kernel_rfl) ?_
  rintro e v7 ⟨rfl, bw⟩
  replace HG := Lib.hid (HG.out.on bw)
  have HS := Lib.hid (HG.out.h)
  clear bw
  refine ⟨_, rfl, HS.out, ?_⟩
  refine sq_ci (some 31) (meetsQ_times _ _) (pc_times (addPG (addPG ((mulPG (x1) (x1) p)) ((mulPG (x1) (x1) p)) (p)) ((mulPG (x1) (x1) p)) (p)) ((p)) (invPG (addPG (y1) (y1) p) p) (p) _) (by kernel_rfl) ?_
  rintro e v8 ⟨rfl, bw⟩
  replace HG := Lib.hid (HG.out.on bw)
  have HS := Lib.hid (HG.out.h)
  clear bw
  refine ⟨_, rfl, HS.out, ?_⟩
  have HE := Lib.hid (HG.out.put hge (aggC (mulPG (addPG (addPG ((mulPG (x1) (x1) p)) ((mulPG (x1) (x1) p)) (p)) ((mulPG (x1) (x1) p)) (p)) (invPG (addPG (y1) (y1) p) p) (p), (p))))
  refine sq_stk 66 (w.heap.size + 1 + 1) (aggC (mulPG (addPG (addPG ((mulPG (x1) (x1) p)) ((mulPG (x1) (x1) p)) (p)) ((mulPG (x1) (x1) p)) (p)) (invPG (addPG (y1) (y1) p) p) (p), (p))) HG.out.out Tryz.infoRCq rfl ((HG.out.h).setRow (HG.out.ne)) ?_
  refine sq_done ?_
  refine ‹∀ a w, Code.wp _ Code.ret _ a w → _› _ _ ?_
  refine wp_ret ?_
  try refine block_ret ?_
  try refine then_ret ?_
  exact bodyPost_ret (results_cell_row Tryz.results66 _ _ (w.heap.size + 1 + 1) _ _ _ _ (by kernel_rfl) HE.out.out Tryz.underlying66 rfl Tryz.infoRCq) (by kernel_rfl) ⟨rfl, HE.out.b⟩
 ·rw [if_neg h]
  have hd : decide (((false, x1, y1) : Tq) = (false, x2, y2)) = false := decide_eq_false (fun e => h ⟨congrArg (fun q : Tq => q.2.1) e, congrArg (fun q : Tq => q.2.2) e⟩)
  clear h
  have HG := Lib.hid (begun3 (Held.none w) (spQ (false, x1, y1) p) (spQ (false, x2, y2) p) #[.string ⟨#[]⟩, .string ⟨#[]⟩, .string ⟨#[]⟩] 68 68 66)
  have hge : w.heap.size ≤ w.heap.size + 1 + 1 := by omega
  go_enter Tryz.func66, Tryz.ntmps66
  go_upto_region 1 with (fail)
  generalize ((w.alloc _).alloc _).alloc _ = w0 at *
  have HS := Lib.hid HG.out.h
  refine wp_region_linek (S := fun w' => Held w' [(w.heap.size + 1, spQ (false, x2, y2) p, 68), (w.heap.size, spQ (false, x1, y1) p, 68)]) [(true, 0), (true, 1), (true, 2)] HS.out ?_
  refine sq_ldk (some 6) (ld_spq (.tail _ (.head _)) (by kernel_rfl)) ?_
  refine sq_ldk (some 7) (ld_spq (.head _) (by kernel_rfl)) ?_
  refine sq_take (some 8) (.bool false) (by kernel_rfl) (yields_eqSq (by kernel_rfl) (.tmp 6) (.tmp 7) (by kernel_rfl) (false, x1, y1) (false, x2, y2) p false hd (by kernel_rfl) (by kernel_rfl)) ?_
  refine sq_fink { tmps := List.toArray (List.append [.agg (spQ (false, x1, y1) p), .agg (spQ (false, x2, y2) p), .pointer (some ⟨w.heap.size, 0, none⟩), .pointer (some ⟨(w.heap.size + 1), 0, none⟩), .pointer (some ⟨(w.heap.size + 1 + 1), 0, none⟩), undef, .agg (spQ (false, x1, y1) p), .agg (spQ (false, x2, y2) p), .bool false, undef, undef, undef, undef, undef, undef, undef, undef, undef, undef, undef, undef, undef, undef, undef, undef, undef, undef, undef, undef, undef, undef, undef, undef, undef, undef, undef, undef, undef, undef, undef] ([undef, undef, undef, undef, undef, undef, undef, undef])), defers := [] } ?_
  refine ‹∀ a w, Code.wp _ _ _ a w → _› _ _ ?_
  go_upto_region 4 with (fail)
  replace HS := Lib.hid HG.out.h
  replace HG := Lib.hid HG.out.drew
  replace HS := Lib.hid HG.out.h
  refine sq_gok (S := fun w' => Held w' [(w.heap.size + 1, spQ (false, x2, y2) p, 68), (w.heap.size, spQ (false, x1, y1) p, 68)]) [(true, 0), (true, 1), (true, 2), (true, 3), (true, 4), (true, 7), (true, 8), (true, 9), (true, 10), (true, 11), (false, 5), (true, 6), (false, 12), (true, 13), (false, 14), (false, 15), (false, 16)] HS.out ?_
  refine sq_psk [(0, .pointer (some ⟨(w.heap.size + 1), 4, none⟩))] ?_
  refine sq_ldk (some 33) (ld_rq (.head _) (k := 4) rfl rfl rfl) ?_
  refine sq_psk [(2, .iface 66 (.agg (aggC (y2, p)))), (3, .pointer (some ⟨w.heap.size, 4, none⟩))] ?_
  refine sq_ldk (some 36) (ld_rq (.tail _ (.head _)) (k := 4) rfl rfl rfl) ?_
  refine sq_psk [(7, .pointer (some ⟨(w.heap.size + 1), 1, none⟩))] ?_
  refine sq_ldk (some 40) (ld_rq (.head _) (k := 1) rfl rfl rfl) ?_
  refine sq_psk [(9, .iface 66 (.agg (aggC (x2, p)))), (10, .pointer (some ⟨w.heap.size, 1, none⟩))] ?_
  refine sq_ldk (some 43) (ld_rq (.tail _ (.head _)) (k := 1) rfl rfl rfl) ?_
  refine sq_ci (some 37) (meetsQ_less _ _) (pc_less (y2) (p) (y1) (p) _) (by kernel_rfl) ?_
  rintro e v1 ⟨rfl, bw⟩
  replace HG := Lib.hid (HG.out.on bw)
  have HS := Lib.hid (HG.out.h)
  clear bw
  refine ⟨_, rfl, HS.out, ?_⟩
  refine sq_psk [(6, .iface 66 (.agg (aggC (subPG (y2) (y1) p, p))))] ?_
  refine sq_ci (some 44) (meetsQ_less _ _) (pc_less (x2) (p) (x1) (p) _) (by kernel_rfl) ?_
  rintro e v2 ⟨rfl, bw⟩
  replace HG := Lib.hid (HG.out.on bw)
  have HS := Lib.hid (HG.out.h)
  clear bw
  refine ⟨_, rfl, HS.out, ?_⟩
  refine sq_psk [(13, .iface 66 (.agg (aggC (subPG (x2) (x1) p, p))))] ?_
  refine sq_ci (some 46) (meetsQ_inverse _) (pc_inverse (subPG (x2) (x1) p) (p) _) (by kernel_rfl) ?_
  rintro e v3 ⟨rfl, bw⟩
  replace HG := Lib.hid (HG.out.on bw)
  have HS := Lib.hid (HG.out.h)
  clear bw
  refine ⟨_, rfl, HS.out, ?_⟩
  refine sq_ci (some 47) (meetsQ_times _ _) (pc_times (subPG (y2) (y1) p) (p) (invPG (subPG (x2) (x1) p) p) (p) _) (by kernel_rfl) ?_
  rintro e v4 ⟨rfl, bw⟩
  replace HG := Lib.hid (HG.out.on bw)
  have HS := Lib.hid (HG.out.h)
  clear bw
  refine ⟨_, rfl, HS.out, ?_⟩
  have HE := Lib.hid (HG.out.put hge (aggC (mulPG (subPG (y2) (y1) p) (invPG (subPG (x2) (x1) p) p) p, p)))
  refine sq_stk 66 (w.heap.size + 1 + 1) (aggC (mulPG (subPG (y2) (y1) p) (invPG (subPG (x2) (x1) p) p) p, p)) HG.out.out Tryz.infoRCq rfl ((HG.out.h).setRow (HG.out.ne)) ?_
  refine sq_done ?_
  refine ‹∀ a w, Code.wp _ Code.ret _ a w → _› _ _ ?_
  refine wp_ret ?_
  try refine block_ret ?_
  try refine then_ret ?_
  exact bodyPost_ret (results_cell_row Tryz.results66 _ _ (w.heap.size + 1 + 1) _ _ _ _ (by kernel_rfl) HE.out.out Tryz.underlying66 rfl Tryz.infoRCq) (by kernel_rfl) ⟨rfl, HE.out.b⟩
def SumQPost (t : Tq) (w : World) (e : Ending) (w' : World) : Prop := (∃ q, e = .returned (.agg (spQ t q))) ∧ Below w.heap.size w w'
theorem spotQ_early (p : ByteArray) (a b : Tq) (h : (a.1 || b.1) = true) (w : World) : Calls Tryz.prog 37 #[.agg (spQ a p), .agg (spQ b p)] w (SumQPost (plusQ p a b) w) := by
 have HG := Lib.hid (begun3 (Held.none w) (spQ a p) (spQ b p) #[.bool false, .string ⟨#[]⟩, .string ⟨#[]⟩, .string ⟨#[]⟩, .string ⟨#[]⟩, .string ⟨#[]⟩, .string ⟨#[]⟩] 68 68 68)
 have hge : w.heap.size ≤ w.heap.size + 1 + 1 := by omega
 unfold plusQ SumQPost
 obtain ⟨z1, x1, y1⟩ := a
 obtain ⟨z2, x2, y2⟩ := b
 cases z1 with
 | true =>
  rw [if_pos rfl]
  have HE := Lib.hid (HG.out.put hge (spQ (z2, x2, y2) p))
  go_enter Tryz.func37, Tryz.ntmps37
  go_upto_region 1 with (fail)
  generalize ((w.alloc _).alloc _).alloc _ = w0 at *
  have c0 := (cell_of_row w0 w.heap.size 0 _ _ _ (HG.out.h _ (.tail _ (.head _)))).trans (show _ = some (Value.bool true) from rfl)
  go_wp2_with (first | refine load_v rfl 68 (.tmp 3) rfl (w.heap.size + 1) (spQ (z2, x2, y2) p) rfl (HG.out.h _ (.head _)) Tryz.underlying68 rfl Tryz.infoSPq ?_ | refine store_v rfl 68 (.tmp 4) (.tmp 11) rfl (w.heap.size + 1 + 1) _ (spQ (z2, x2, y2) p) rfl rfl HG.out.out Tryz.infoSPq rfl (by kernel_rfl) ?_)
  exact bodyPost_ret (results_cell_row Tryz.results37 _ _ (w.heap.size + 1 + 1) _ _ _ _ rfl HE.out.out Tryz.underlying68 rfl Tryz.infoSPq) rfl ⟨⟨p, rfl⟩, HE.out.b⟩
 | false =>
  cases z2 with
  | false => cases h
  | true =>
   rw [if_neg Bool.false_ne_true, if_pos rfl]
   have HE := Lib.hid (HG.out.put hge (spQ (false, x1, y1) p))
   go_enter Tryz.func37, Tryz.ntmps37
   go_upto_region 1 with (fail)
   generalize ((w.alloc _).alloc _).alloc _ = w0 at *
   have c0 := (cell_of_row w0 w.heap.size 0 _ _ _ (HG.out.h _ (.tail _ (.head _)))).trans (show _ = some (Value.bool false) from rfl)
   have c1 := (cell_of_row w0 (w.heap.size + 1) 0 _ _ _ (HG.out.h _ (.head _))).trans (show _ = some (Value.bool true) from rfl)
   go_wp2_with (first | refine load_v rfl 68 (.tmp 2) rfl w.heap.size (spQ (false, x1, y1) p) rfl (HG.out.h _ (.tail _ (.head _))) Tryz.underlying68 rfl Tryz.infoSPq ?_ | refine store_v rfl 68 (.tmp 4) (.tmp 15) rfl (w.heap.size + 1 + 1) _ (spQ (false, x1, y1) p) rfl rfl HG.out.out Tryz.infoSPq rfl (by kernel_rfl) ?_)
   exact bodyPost_ret (results_cell_row Tryz.results37 _ _ (w.heap.size + 1 + 1) _ _ _ _ rfl HE.out.out Tryz.underlying68 rfl Tryz.infoSPq) rfl ⟨⟨p, rfl⟩, HE.out.b⟩
theorem spotQ_late (p : ByteArray) (x1 y1 x2 y2 : Pt) (w : World) : Calls Tryz.prog 37 #[.agg (spQ (false, x1, y1) p), .agg (spQ (false, x2, y2) p)] w (SumQPost (plusQ p (false, x1, y1) (false, x2, y2)) w) := by
 unfold plusQ SumQPost
 rw [if_neg Bool.false_ne_true, if_neg Bool.false_ne_true]
 have HSl := Lib.hid (spotQ_slope p x1 y1 x2 y2)
 simp only
 unfold lineQ
 generalize slopeQ p x1 y1 x2 y2 = sl at *
 by_cases h : x1 = x2 ∧ y1 = negPG y2 p
 ·rw [if_pos h]
  have hd : decide (((x1, p) : Pt × ByteArray) = (x2, p)) = true := by rw [h.1]; simp
  have he : decide (((y1, p) : Pt × ByteArray) = (negPG y2 p, p)) = true := by rw [← h.2]; simp
  clear h HSl
  have HG := Lib.hid (begun3 (Held.none w) (spQ (false, x1, y1) p) (spQ (false, x2, y2) p) #[.bool false, .string ⟨#[]⟩, .string ⟨#[]⟩, .string ⟨#[]⟩, .string ⟨#[]⟩, .string ⟨#[]⟩, .string ⟨#[]⟩] 68 68 68)
  have hge : w.heap.size ≤ w.heap.size + 1 + 1 := by omega
  go_enter Tryz.func37, Tryz.ntmps37
  go_upto_region 1 with (fail)
  generalize ((w.alloc _).alloc _).alloc _ = w0 at *
  have HS := Lib.hid HG.out.h
  have c0 := (cell_of_row w0 w.heap.size 0 _ _ _ (HG.out.h _ (.tail _ (.head _)))).trans (show _ = some (Value.bool false) from rfl)
  have c1 := (cell_of_row w0 (w.heap.size + 1) 0 _ _ _ (HG.out.h _ (.head _))).trans (show _ = some (Value.bool false) from rfl)
  go_upto_region 5 with (fail)
  clear c0 c1
  replace HG := Lib.hid HG.out.drew
  replace HS := Lib.hid HG.out.h
  refine sq_gok (S := fun w' => Held w' [(w.heap.size + 1, spQ (false, x2, y2) p, 68), (w.heap.size, spQ (false, x1, y1) p, 68)]) [(true, 0), (true, 1), (true, 2), (true, 3), (true, 4), (true, 5), (true, 6), (true, 7), (true, 8), (true, 9), (true, 10), (false, 11), (true, 12), (true, 13), (true, 14)] HS.out ?_
  refine SQ.out ?_
  refine g_psk [(0, .pointer (some ⟨w.heap.size, 1, none⟩))] ?_
  refine g_ldk (some 18) (ld_rq (.tail _ (.head _)) (k := 1) rfl rfl rfl) ?_
  refine g_psk [(2, .pointer (some ⟨(w.heap.size + 1), 1, none⟩))] ?_
  refine g_ldk (some 20) (ld_rq (.head _) (k := 1) rfl rfl rfl) ?_
  refine g_take (some 21) (.bool true) (by kernel_rfl) (yields_eqRq (by kernel_rfl) (.tmp 18) (.tmp 20) (by kernel_rfl) (x1, p) (x2, p) true hd (by kernel_rfl) (by kernel_rfl)) ?_
  refine g_psk [(5, .bool true), (6, .pointer (some ⟨w.heap.size, 4, none⟩))] ?_
  refine g_ldk (some 24) (ld_rq (.tail _ (.head _)) (k := 4) rfl rfl rfl) ?_
  refine g_psk [(8, .pointer (some ⟨(w.heap.size + 1), 4, none⟩))] ?_
  refine g_ldk (some 26) (ld_rq (.head _) (k := 4) rfl rfl rfl) ?_
  refine g_psk [(10, .iface 66 (.agg (aggC (y2, p))))] ?_
  refine g_ci (some 28) (meetsQ_negative _) (pc_negative (y2) (p) _) (by kernel_rfl) ?_
  rintro e v1 ⟨rfl, bw⟩
  replace HG := Lib.hid (HG.out.on bw)
  have HS := Lib.hid (HG.out.h)
  clear bw
  refine ⟨_, rfl, HS.out, ?_⟩
  refine g_take (some 29) (.bool true) (by kernel_rfl) (yields_eqRq (wanted_by (g := 5) (b := true) (d := 22) (by kernel_rfl) (by kernel_rfl) (by kernel_rfl) (by kernel_rfl)) (.tmp 24) (.tmp 28) (by kernel_rfl) (y1, p) (negPG y2 p, p) true he (by kernel_rfl) (by kernel_rfl)) ?_
  refine g_psk [(13, .bool true), (14, .bool true)] ?_
  refine g_normk { tmps := List.toArray (List.append [.agg (spQ (false, x1, y1) p), .agg (spQ (false, x2, y2) p), .pointer (some ⟨w.heap.size, 0, none⟩), .pointer (some ⟨(w.heap.size + 1), 0, none⟩), .pointer (some ⟨(w.heap.size + 1 + 1), 0, none⟩), undef, undef, undef, .bool false, .pointer (some ⟨w.heap.size, 0, none⟩), .bool false, undef, .bool false, .pointer (some ⟨(w.heap.size + 1), 0, none⟩), .bool false, undef, .bool true, .pointer (some ⟨w.heap.size, 1, none⟩), .agg (aggC (x1, p)), .pointer (some ⟨(w.heap.size + 1), 1, none⟩), .agg (aggC (x2, p)), .bool true, .bool true, .pointer (some ⟨w.heap.size, 4, none⟩), .agg (aggC (y1, p)), .pointer (some ⟨(w.heap.size + 1), 4, none⟩), .agg (aggC (y2, p)), .iface 66 (.agg (aggC (y2, p))), .agg (aggC (negPG (y2) p, p)), .bool true, .bool true, undef, undef, undef, undef, undef, undef, undef, undef, undef] ([undef, undef, undef, undef, undef, undef, undef, undef, undef, undef, undef, undef, undef, undef, undef, undef, undef, undef, undef, undef, undef, undef])), defers := [] } ?_
  refine g_done ?_
  refine ‹∀ a w, Code.wp _ _ _ a w → _› _ _ ?_
  go_upto_region 6 with (fail)
  replace HS := Lib.hid HG.out.h
  refine wp_region_linek (S := fun w' => Held w' [(w.heap.size + 1, spQ (false, x2, y2) p, 68), (w.heap.size, spQ (false, x1, y1) p, 68)]) [(true, 0), (false, 1)] HS.out ?_
  refine sq_pure (some 31) (.agg (spQ zeroQ ⟨#[]⟩)) (by kernel_rfl) (by kernel_rfl) (held_build 68 #[(0, (.const (.bool true)))] (by kernel_rfl) _ (by kernel_rfl) _ built_szq) ?_
  have HE := Lib.hid (HG.out.put hge (spQ zeroQ ⟨#[]⟩))
  refine sq_stk 68 (w.heap.size + 1 + 1) (spQ zeroQ ⟨#[]⟩) HG.out.out Tryz.infoSPq rfl ((HG.out.h).setRow (HG.out.ne)) ?_
  refine sq_done ?_
  refine ‹∀ a w, Code.wp _ Code.ret _ a w → _› _ _ ?_
  refine wp_ret ?_
  try refine block_ret ?_
  try refine then_ret ?_
  exact bodyPost_ret (results_cell_row Tryz.results37 _ _ (w.heap.size + 1 + 1) _ _ _ _ (by kernel_rfl) HE.out.out Tryz.underlying68 rfl Tryz.infoSPq) (by kernel_rfl) ⟨⟨_, rfl⟩, HE.out.b⟩
 ·rw [if_neg h]
  have HG := Lib.hid (begun3 (Held.none w) (spQ (false, x1, y1) p) (spQ (false, x2, y2) p) #[.bool false, .string ⟨#[]⟩, .string ⟨#[]⟩, .string ⟨#[]⟩, .string ⟨#[]⟩, .string ⟨#[]⟩, .string ⟨#[]⟩] 68 68 68)
  have hge : w.heap.size ≤ w.heap.size + 1 + 1 := by omega
  go_enter Tryz.func37, Tryz.ntmps37
  go_upto_region 1 with (fail)
  generalize ((w.alloc _).alloc _).alloc _ = w0 at *
  have HS := Lib.hid HG.out.h
  have c0 := (cell_of_row w0 w.heap.size 0 _ _ _ (HG.out.h _ (.tail _ (.head _)))).trans (show _ = some (Value.bool false) from rfl)
  have c1 := (cell_of_row w0 (w.heap.size + 1) 0 _ _ _ (HG.out.h _ (.head _))).trans (show _ = some (Value.bool false) from rfl)
  go_upto_region 5 with (fail)
  clear c0 c1
  refine Code.wp_mono (Q := fun e a' w' => e = .normal ∧ ∃ (j21 j22 j23 j24 j25 j26 j27 j28 j29 : Value), a' = { tmps := List.toArray (List.append [.agg (spQ (false, x1, y1) p), .agg (spQ (false, x2, y2) p), .pointer (some ⟨w.heap.size, 0, none⟩), .pointer (some ⟨(w.heap.size + 1), 0, none⟩), .pointer (some ⟨(w.heap.size + 1 + 1), 0, none⟩), undef, undef, undef, .bool false, .pointer (some ⟨w.heap.size, 0, none⟩), .bool false, undef, .bool false, .pointer (some ⟨(w.heap.size + 1), 0, none⟩), .bool false, undef, .bool false, .pointer (some ⟨w.heap.size, 1, none⟩), .agg (aggC (x1, p)), .pointer (some ⟨(w.heap.size + 1), 1, none⟩), .agg (aggC (x2, p)), j21, j22, j23, j24, j25, j26, j27, j28, j29, .bool false, undef, undef, undef, undef, undef, undef, undef, undef, undef] ([undef, undef, undef, undef, undef, undef, undef, undef, undef, undef, undef, undef, undef, undef, undef, undef, undef, undef, undef, undef, undef, undef])), defers := [] } ∧ Begun w w' [(w.heap.size + 1, spQ (false, x2, y2) p, 68), (w.heap.size, spQ (false, x1, y1) p, 68)] (w.heap.size + 1 + 1) #[.bool false, .string ⟨#[]⟩, .string ⟨#[]⟩, .string ⟨#[]⟩, .string ⟨#[]⟩, .string ⟨#[]⟩, .string ⟨#[]⟩] 68) ?_ ?_
  rotate_left
  ·by_cases h1 : x1 = x2
   ·have hd : decide (((x1, p) : Pt × ByteArray) = (x2, p)) = true := by rw [h1]; simp
    have he : decide (((y1, p) : Pt × ByteArray) = (negPG y2 p, p)) = false := decide_eq_false (fun e => h ⟨h1, congrArg (fun q : Pt × ByteArray => q.1) e⟩)
    clear h h1
    replace HG := Lib.hid HG.out.drew
    replace HS := Lib.hid HG.out.h
    refine sq_gok (S := fun w' => Held w' [(w.heap.size + 1, spQ (false, x2, y2) p, 68), (w.heap.size, spQ (false, x1, y1) p, 68)]) [(true, 0), (true, 1), (true, 2), (true, 3), (true, 4), (true, 5), (true, 6), (true, 7), (true, 8), (true, 9), (true, 10), (false, 11), (true, 12), (true, 13), (true, 14)] HS.out ?_
    refine SQ.out ?_
    refine g_psk [(0, .pointer (some ⟨w.heap.size, 1, none⟩))] ?_
    refine g_ldk (some 18) (ld_rq (.tail _ (.head _)) (k := 1) rfl rfl rfl) ?_
    refine g_psk [(2, .pointer (some ⟨(w.heap.size + 1), 1, none⟩))] ?_
    refine g_ldk (some 20) (ld_rq (.head _) (k := 1) rfl rfl rfl) ?_
    refine g_take (some 21) (.bool true) (by kernel_rfl) (yields_eqRq (by kernel_rfl) (.tmp 18) (.tmp 20) (by kernel_rfl) (x1, p) (x2, p) true hd (by kernel_rfl) (by kernel_rfl)) ?_
    refine g_psk [(5, .bool true), (6, .pointer (some ⟨w.heap.size, 4, none⟩))] ?_
    refine g_ldk (some 24) (ld_rq (.tail _ (.head _)) (k := 4) rfl rfl rfl) ?_
    refine g_psk [(8, .pointer (some ⟨(w.heap.size + 1), 4, none⟩))] ?_
    refine g_ldk (some 26) (ld_rq (.head _) (k := 4) rfl rfl rfl) ?_
    refine g_psk [(10, .iface 66 (.agg (aggC (y2, p))))] ?_
    refine g_ci (some 28) (meetsQ_negative _) (pc_negative (y2) (p) _) (by kernel_rfl) ?_
    rintro e v1 ⟨rfl, bw⟩
    replace HG := Lib.hid (HG.out.on bw)
    have HS := Lib.hid (HG.out.h)
    clear bw
    refine ⟨_, rfl, HS.out, ?_⟩
    refine g_take (some 29) (.bool false) (by kernel_rfl) (yields_eqRq (wanted_by (g := 5) (b := true) (d := 22) (by kernel_rfl) (by kernel_rfl) (by kernel_rfl) (by kernel_rfl)) (.tmp 24) (.tmp 28) (by kernel_rfl) (y1, p) (negPG y2 p, p) false he (by kernel_rfl) (by kernel_rfl)) ?_
    refine g_psk [(13, .bool false), (14, .bool false)] ?_
    refine g_normk { tmps := List.toArray (List.append [.agg (spQ (false, x1, y1) p), .agg (spQ (false, x2, y2) p), .pointer (some ⟨w.heap.size, 0, none⟩), .pointer (some ⟨(w.heap.size + 1), 0, none⟩), .pointer (some ⟨(w.heap.size + 1 + 1), 0, none⟩), undef, undef, undef, .bool false, .pointer (some ⟨w.heap.size, 0, none⟩), .bool false, undef, .bool false, .pointer (some ⟨(w.heap.size + 1), 0, none⟩), .bool false, undef, .bool false, .pointer (some ⟨w.heap.size, 1, none⟩), .agg (aggC (x1, p)), .pointer (some ⟨(w.heap.size + 1), 1, none⟩), .agg (aggC (x2, p)), .bool true, .bool true, .pointer (some ⟨w.heap.size, 4, none⟩), .agg (aggC (y1, p)), .pointer (some ⟨(w.heap.size + 1), 4, none⟩), .agg (aggC (y2, p)), .iface 66 (.agg (aggC (y2, p))), .agg (aggC (negPG (y2) p, p)), .bool false, .bool false, undef, undef, undef, undef, undef, undef, undef, undef, undef] ([undef, undef, undef, undef, undef, undef, undef, undef, undef, undef, undef, undef, undef, undef, undef, undef, undef, undef, undef, undef, undef, undef])), defers := [] } ?_
    refine g_done ?_
    exact ⟨rfl, .bool true, .bool true, .pointer (some ⟨w.heap.size, 4, none⟩), .agg (aggC (y1, p)), .pointer (some ⟨(w.heap.size + 1), 4, none⟩), .agg (aggC (y2, p)), .iface 66 (.agg (aggC (y2, p))), .agg (aggC (negPG (y2) p, p)), .bool false, rfl, HG.out⟩
   ·have hd : decide (((x1, p) : Pt × ByteArray) = (x2, p)) = false := decide_eq_false (fun e => h1 (congrArg (fun q : Pt × ByteArray => q.1) e))
    clear h h1
    replace HG := Lib.hid HG.out.drew
    replace HS := Lib.hid HG.out.h
    refine sq_gok (S := fun w' => Held w' [(w.heap.size + 1, spQ (false, x2, y2) p, 68), (w.heap.size, spQ (false, x1, y1) p, 68)]) [(true, 0), (true, 1), (true, 2), (true, 3), (true, 4), (true, 5), (true, 6), (true, 7), (true, 8), (true, 9), (true, 10), (true, 11), (true, 12), (true, 13), (true, 14)] HS.out ?_
    refine SQ.out ?_
    refine g_psk [(0, .pointer (some ⟨w.heap.size, 1, none⟩))] ?_
    refine g_ldk (some 18) (ld_rq (.tail _ (.head _)) (k := 1) rfl rfl rfl) ?_
    refine g_psk [(2, .pointer (some ⟨(w.heap.size + 1), 1, none⟩))] ?_
    refine g_ldk (some 20) (ld_rq (.head _) (k := 1) rfl rfl rfl) ?_
    refine g_take (some 21) (.bool false) (by kernel_rfl) (yields_eqRq (by kernel_rfl) (.tmp 18) (.tmp 20) (by kernel_rfl) (x1, p) (x2, p) false hd (by kernel_rfl) (by kernel_rfl)) ?_
    refine g_psk [(5, .bool false)] ?_
    refine g_nok [6, 7, 8, 9, 10, 11, 12] ?_
    refine g_psk [(13, .bool false), (14, .bool false)] ?_
    refine g_normk { tmps := List.toArray (List.append [.agg (spQ (false, x1, y1) p), .agg (spQ (false, x2, y2) p), .pointer (some ⟨w.heap.size, 0, none⟩), .pointer (some ⟨(w.heap.size + 1), 0, none⟩), .pointer (some ⟨(w.heap.size + 1 + 1), 0, none⟩), undef, undef, undef, .bool false, .pointer (some ⟨w.heap.size, 0, none⟩), .bool false, undef, .bool false, .pointer (some ⟨(w.heap.size + 1), 0, none⟩), .bool false, undef, .bool false, .pointer (some ⟨w.heap.size, 1, none⟩), .agg (aggC (x1, p)), .pointer (some ⟨(w.heap.size + 1), 1, none⟩), .agg (aggC (x2, p)), .bool false, .bool false, undef, undef, undef, undef, undef, undef, undef, .bool false, undef, undef, undef, undef, undef, undef, undef, undef, undef] ([undef, undef, undef, undef, undef, undef, undef, undef, undef, undef, undef, undef, undef, undef, undef, undef, undef, undef, undef, undef, undef, undef])), defers := [] } ?_
    refine g_done ?_
    exact ⟨rfl, .bool false, .bool false, undef, undef, undef, undef, undef, undef, undef, rfl, HG.out⟩
  rintro e a w1 ⟨rfl, j21, j22, j23, j24, j25, j26, j27, j28, j29, rfl, hG⟩
  replace HG := Lib.hid hG
  clear hG h
  refine ‹∀ a w, Code.wp _ _ _ a w → _› _ _ ?_
  go_upto_region 7 with (fail)
  replace HS := Lib.hid HG.out.h
  refine wp_region_linek (S := fun w' => Held w' [(w.heap.size + 1, spQ (false, x2, y2) p, 68), (w.heap.size, spQ (false, x1, y1) p, 68)]) [(true, 0), (true, 1), (false, 2), (false, 3), (false, 4)] HS.out ?_
  refine sq_ldk (some 32) (ld_spq (.tail _ (.head _)) (by kernel_rfl)) ?_
  refine sq_ldk (some 33) (ld_spq (.head _) (by kernel_rfl)) ?_
  refine sq_ck (some 34) Tryz.func66 (HSl.out _) ?_
  rintro e v1 ⟨rfl, bw⟩
  replace HG := Lib.hid (HG.out.on bw)
  have HS := Lib.hid (HG.out.h)
  clear bw
  refine ⟨_, rfl, HS.out, ?_⟩
  have GEg2 := Lib.hid HG.out.b.size
  have APg2 := Lib.hid HG.out.h.apart
  replace HG := Lib.hid (HG.out.new (aggC (noP, ⟨#[]⟩)) 66)
  have HS := Lib.hid (HG.out.h.tail)
  refine sq_allock (some 5) 66 (aggC (noP, ⟨#[]⟩)) (zero_rq _) HS.out ?_
  generalize v1.alloc _ = u2 at *
  generalize v1.heap.size = g2 at *
  have HN := Lib.hid (HG.out.h _ (.head _))
  replace HG := Lib.hid (HG.out.putAt GEg2.out APg2.out (aggC (sl, p)))
  have HS := Lib.hid (HG.out.h.tail)
  refine sq_stk 66 g2 (aggC (sl, p)) HN.out Tryz.infoRCq rfl HS.out ?_
  clear HN
  generalize World.setRow _ g2 _ = t3 at *
  refine sq_fink { tmps := List.toArray (List.append [.agg (spQ (false, x1, y1) p), .agg (spQ (false, x2, y2) p), .pointer (some ⟨w.heap.size, 0, none⟩), .pointer (some ⟨(w.heap.size + 1), 0, none⟩), .pointer (some ⟨(w.heap.size + 1 + 1), 0, none⟩), .pointer (some ⟨g2, 0, none⟩), undef, undef, .bool false, .pointer (some ⟨w.heap.size, 0, none⟩), .bool false, undef, .bool false, .pointer (some ⟨(w.heap.size + 1), 0, none⟩), .bool false, undef, .bool false, .pointer (some ⟨w.heap.size, 1, none⟩), .agg (aggC (x1, p)), .pointer (some ⟨(w.heap.size + 1), 1, none⟩), .agg (aggC (x2, p)), j21, j22, j23, j24, j25, j26, j27, j28, j29, .bool false, undef, .agg (spQ (false, x1, y1) p), .agg (spQ (false, x2, y2) p), .agg (aggC (sl, p)), undef, undef, undef, undef, undef] ([undef, undef, undef, undef, undef, undef, undef, undef, undef, undef, undef, undef, undef, undef, undef, undef, undef, undef, undef, undef, undef, undef])), defers := [] } ?_
  refine ‹∀ a w, Code.wp _ _ _ a w → _› _ _ ?_
  go_upto_region 8 with (fail)
  replace HS := Lib.hid HG.out.h
  refine Code.wp_mono (Q := fun e a' w' => e = .normal ∧ ∃ (g4 : Nat), a' = { tmps := List.toArray (List.append [.agg (spQ (false, x1, y1) p), .agg (spQ (false, x2, y2) p), .pointer (some ⟨w.heap.size, 0, none⟩), .pointer (some ⟨(w.heap.size + 1), 0, none⟩), .pointer (some ⟨(w.heap.size + 1 + 1), 0, none⟩), .pointer (some ⟨g2, 0, none⟩), .pointer (some ⟨g4, 0, none⟩), undef, .bool false, .pointer (some ⟨w.heap.size, 0, none⟩), .bool false, undef, .bool false, .pointer (some ⟨(w.heap.size + 1), 0, none⟩), .bool false, undef, .bool false, .pointer (some ⟨w.heap.size, 1, none⟩), .agg (aggC (x1, p)), .pointer (some ⟨(w.heap.size + 1), 1, none⟩), .agg (aggC (x2, p)), j21, j22, j23, j24, j25, j26, j27, j28, j29, .bool false, undef, .agg (spQ (false, x1, y1) p), .agg (spQ (false, x2, y2) p), .agg (aggC (sl, p)), .agg (aggC ((sl), (p))), .iface 66 (.agg (aggC ((sl), (p)))), .agg (aggC ((sl), (p))), .agg (aggC (mulPG ((sl)) ((sl)) (p), (p))), .iface 66 (.agg (aggC (mulPG ((sl)) ((sl)) (p), (p))))] ([.pointer (some ⟨w.heap.size, 1, none⟩), .agg (aggC (x1, p)), .agg (aggC (subPG (mulPG ((sl)) ((sl)) (p)) (x1) (p), (p))), .iface 66 (.agg (aggC (subPG (mulPG ((sl)) ((sl)) (p)) (x1) (p), (p)))), .pointer (some ⟨(w.heap.size + 1), 1, none⟩), .agg (aggC (x2, p)), .agg (aggC (subPG (subPG (mulPG ((sl)) ((sl)) (p)) (x1) (p)) (x2) (p), (p))), undef, undef, undef, undef, undef, undef, undef, undef, undef, undef, undef, undef, undef, undef, undef])), defers := [] } ∧ Begun w w' [(g4, aggC (subPG (subPG (mulPG ((sl)) ((sl)) (p)) (x1) (p)) (x2) (p), (p)), 66), (g2, aggC (sl, p), 66), (w.heap.size + 1, spQ (false, x2, y2) p, 68), (w.heap.size, spQ (false, x1, y1) p, 68)] (w.heap.size + 1 + 1) #[.bool false, .string ⟨#[]⟩, .string ⟨#[]⟩, .string ⟨#[]⟩, .string ⟨#[]⟩, .string ⟨#[]⟩, .string ⟨#[]⟩] 68) ?_ ?_
  rotate_left
  ·refine m_begin (S := fun w' => Held w' [(g2, aggC (sl, p), 66), (w.heap.size + 1, spQ (false, x2, y2) p, 68), (w.heap.size, spQ (false, x1, y1) p, 68)]) (by kernel_rfl) 14 (by kernel_rfl) ?_
   replace HG := Lib.hid HG.out.drew
   change wpM _ _ _ _ _ _ _ _ (World.drew _)
   generalize World.drew t3 = v400 at *
   have HS := Lib.hid HG.out.h
   refine m_seqi (f := 7) [(true, 0), (true, 1), (true, 2), (true, 5), (true, 6), (true, 9), (true, 10)] 1639 HS.out ?_
   refine sq_ldk (some 35) (ld_rq (.head _) (k := 0) rfl rfl rfl) ?_
   refine sq_psk [(1, .iface 66 (.agg (aggC ((sl), (p)))))] ?_
   refine sq_ldk (some 37) (ld_rq (.head _) (k := 0) rfl rfl rfl) ?_
   refine sq_psk [(5, .pointer (some ⟨w.heap.size, 1, none⟩))] ?_
   refine sq_ldk (some 41) (ld_rq (.tail _ (.tail _ (.head _))) (k := 1) rfl rfl rfl) ?_
   refine sq_psk [(9, .pointer (some ⟨(w.heap.size + 1), 1, none⟩))] ?_
   refine sq_ldk (some 45) (ld_rq (.tail _ (.head _)) (k := 1) rfl rfl rfl) ?_
   refine sq_done ?_
   refine m_maskk (M' := 1639) ?_
   refine m_waysi (f := 6) [3, 12] ?_
   intro i hi
   rcases (by simpa using hi : i = 3 ∨ i = 12) with rfl | rfl
   ·refine sq_ci (some 38) (meetsQ_times _ _) (pc_times ((sl)) ((p)) ((sl)) ((p)) _) (by kernel_rfl) ?_
    rintro e v401 ⟨rfl, bw⟩
    replace HG := Lib.hid (HG.out.on bw)
    have HS := Lib.hid (HG.out.h)
    clear bw
    refine ⟨_, rfl, HS.out, ?_⟩
    refine sq_done ?_
    refine m_maskk (M' := 1647) ?_
    refine m_seqi (f := 5) [(true, 4)] 1663 HS.out ?_
    refine sq_psk [(4, .iface 66 (.agg (aggC (mulPG ((sl)) ((sl)) (p), (p)))))] ?_
    refine sq_done ?_
    refine m_maskk (M' := 1663) ?_
    refine m_waysi (f := 4) [7, 12] ?_
    intro i hi
    rcases (by simpa using hi : i = 7 ∨ i = 12) with rfl | rfl
    ·refine sq_ci (some 42) (meetsQ_less _ _) (pc_less (mulPG ((sl)) ((sl)) (p)) ((p)) (x1) (p) _) (by kernel_rfl) ?_
     rintro e v402 ⟨rfl, bw⟩
     replace HG := Lib.hid (HG.out.on bw)
     have HS := Lib.hid (HG.out.h)
     clear bw
     refine ⟨_, rfl, HS.out, ?_⟩
     refine sq_done ?_
     refine m_maskk (M' := 1791) ?_
     refine m_seqi (f := 3) [(true, 8)] 2047 HS.out ?_
     refine sq_psk [(8, .iface 66 (.agg (aggC (subPG (mulPG ((sl)) ((sl)) (p)) (x1) (p), (p)))))] ?_
     refine sq_done ?_
     refine m_maskk (M' := 2047) ?_
     refine m_waysi (f := 2) [11, 12] ?_
     intro i hi
     rcases (by simpa using hi : i = 11 ∨ i = 12) with rfl | rfl
     ·refine sq_ci (some 46) (meetsQ_less _ _) (pc_less (subPG (mulPG ((sl)) ((sl)) (p)) (x1) (p)) ((p)) (x2) (p) _) (by kernel_rfl) ?_
      rintro e v403 ⟨rfl, bw⟩
      replace HG := Lib.hid (HG.out.on bw)
      have HS := Lib.hid (HG.out.h)
      clear bw
      refine ⟨_, rfl, HS.out, ?_⟩
      refine sq_done ?_
      refine m_maskk (M' := 4095) ?_
      refine m_seqi (f := 1) [(false, 12)] 8191 HS.out ?_
      have GEg4 := Lib.hid HG.out.b.size
      have APg4 := Lib.hid HG.out.h.apart
      replace HG := Lib.hid (HG.out.new (aggC (noP, ⟨#[]⟩)) 66)
      have HS := Lib.hid (HG.out.h.tail)
      refine sq_allock (some 6) 66 (aggC (noP, ⟨#[]⟩)) (zero_rq _) HS.out ?_
      generalize v403.alloc _ = u404 at *
      generalize v403.heap.size = g4 at *
      refine sq_done ?_
      refine m_maskk (M' := 8191) ?_
      refine m_seqi (f := 0) [(false, 13)] 16383 HS.out ?_
      have HN := Lib.hid (HG.out.h _ (.head _))
      replace HG := Lib.hid (HG.out.putAt GEg4.out APg4.out (aggC (subPG (subPG (mulPG ((sl)) ((sl)) (p)) (x1) (p)) (x2) (p), (p))))
      have HS := Lib.hid (HG.out.h.tail)
      refine sq_stk 66 g4 (aggC (subPG (subPG (mulPG ((sl)) ((sl)) (p)) (x1) (p)) (x2) (p), (p))) HN.out Tryz.infoRCq rfl HS.out ?_
      clear HN
      generalize World.setRow _ g4 _ = t405 at *
      refine sq_done ?_
      refine m_maskk (M' := 16383) ?_
      refine m_donei { tmps := List.toArray (List.append [.agg (spQ (false, x1, y1) p), .agg (spQ (false, x2, y2) p), .pointer (some ⟨w.heap.size, 0, none⟩), .pointer (some ⟨(w.heap.size + 1), 0, none⟩), .pointer (some ⟨(w.heap.size + 1 + 1), 0, none⟩), .pointer (some ⟨g2, 0, none⟩), .pointer (some ⟨g4, 0, none⟩), undef, .bool false, .pointer (some ⟨w.heap.size, 0, none⟩), .bool false, undef, .bool false, .pointer (some ⟨(w.heap.size + 1), 0, none⟩), .bool false, undef, .bool false, .pointer (some ⟨w.heap.size, 1, none⟩), .agg (aggC (x1, p)), .pointer (some ⟨(w.heap.size + 1), 1, none⟩), .agg (aggC (x2, p)), j21, j22, j23, j24, j25, j26, j27, j28, j29, .bool false, undef, .agg (spQ (false, x1, y1) p), .agg (spQ (false, x2, y2) p), .agg (aggC (sl, p)), .agg (aggC ((sl), (p))), .iface 66 (.agg (aggC ((sl), (p)))), .agg (aggC ((sl), (p))), .agg (aggC (mulPG ((sl)) ((sl)) (p), (p))), .iface 66 (.agg (aggC (mulPG ((sl)) ((sl)) (p), (p))))] ([.pointer (some ⟨w.heap.size, 1, none⟩), .agg (aggC (x1, p)), .agg (aggC (subPG (mulPG ((sl)) ((sl)) (p)) (x1) (p), (p))), .iface 66 (.agg (aggC (subPG (mulPG ((sl)) ((sl)) (p)) (x1) (p), (p)))), .pointer (some ⟨(w.heap.size + 1), 1, none⟩), .agg (aggC (x2, p)), .agg (aggC (subPG (subPG (mulPG ((sl)) ((sl)) (p)) (x1) (p)) (x2) (p), (p))), undef, undef, undef, undef, undef, undef, undef, undef, undef, undef, undef, undef, undef, undef, undef])), defers := [] } ?_
      exact ⟨rfl, g4, rfl, HG.out⟩
     ·have GEg4 := Lib.hid HG.out.b.size
      have APg4 := Lib.hid HG.out.h.apart
      replace HG := Lib.hid (HG.out.new (aggC (noP, ⟨#[]⟩)) 66)
      have HS := Lib.hid (HG.out.h.tail)
      refine sq_allock (some 6) 66 (aggC (noP, ⟨#[]⟩)) (zero_rq _) HS.out ?_
      generalize v402.alloc _ = u406 at *
      generalize v402.heap.size = g4 at *
      refine sq_done ?_
      refine m_maskk (M' := 6143) ?_
      refine m_seqi (f := 1) [(false, 11)] 8191 HS.out ?_
      refine sq_ci (some 46) (meetsQ_less _ _) (pc_less (subPG (mulPG ((sl)) ((sl)) (p)) (x1) (p)) ((p)) (x2) (p) _) (by kernel_rfl) ?_
      rintro e v407 ⟨rfl, bw⟩
      replace HG := Lib.hid (HG.out.on bw)
      have HS := Lib.hid (HG.out.h.tail)
      clear bw
      refine ⟨_, rfl, HS.out, ?_⟩
      refine sq_done ?_
      refine m_maskk (M' := 8191) ?_
      refine m_seqi (f := 0) [(false, 13)] 16383 HS.out ?_
      have HN := Lib.hid (HG.out.h _ (.head _))
      replace HG := Lib.hid (HG.out.putAt GEg4.out APg4.out (aggC (subPG (subPG (mulPG ((sl)) ((sl)) (p)) (x1) (p)) (x2) (p), (p))))
      have HS := Lib.hid (HG.out.h.tail)
      refine sq_stk 66 g4 (aggC (subPG (subPG (mulPG ((sl)) ((sl)) (p)) (x1) (p)) (x2) (p), (p))) HN.out Tryz.infoRCq rfl HS.out ?_
      clear HN
      generalize World.setRow _ g4 _ = t408 at *
      refine sq_done ?_
      refine m_maskk (M' := 16383) ?_
      refine m_donei { tmps := List.toArray (List.append [.agg (spQ (false, x1, y1) p), .agg (spQ (false, x2, y2) p), .pointer (some ⟨w.heap.size, 0, none⟩), .pointer (some ⟨(w.heap.size + 1), 0, none⟩), .pointer (some ⟨(w.heap.size + 1 + 1), 0, none⟩), .pointer (some ⟨g2, 0, none⟩), .pointer (some ⟨g4, 0, none⟩), undef, .bool false, .pointer (some ⟨w.heap.size, 0, none⟩), .bool false, undef, .bool false, .pointer (some ⟨(w.heap.size + 1), 0, none⟩), .bool false, undef, .bool false, .pointer (some ⟨w.heap.size, 1, none⟩), .agg (aggC (x1, p)), .pointer (some ⟨(w.heap.size + 1), 1, none⟩), .agg (aggC (x2, p)), j21, j22, j23, j24, j25, j26, j27, j28, j29, .bool false, undef, .agg (spQ (false, x1, y1) p), .agg (spQ (false, x2, y2) p), .agg (aggC (sl, p)), .agg (aggC ((sl), (p))), .iface 66 (.agg (aggC ((sl), (p)))), .agg (aggC ((sl), (p))), .agg (aggC (mulPG ((sl)) ((sl)) (p), (p))), .iface 66 (.agg (aggC (mulPG ((sl)) ((sl)) (p), (p))))] ([.pointer (some ⟨w.heap.size, 1, none⟩), .agg (aggC (x1, p)), .agg (aggC (subPG (mulPG ((sl)) ((sl)) (p)) (x1) (p), (p))), .iface 66 (.agg (aggC (subPG (mulPG ((sl)) ((sl)) (p)) (x1) (p), (p)))), .pointer (some ⟨(w.heap.size + 1), 1, none⟩), .agg (aggC (x2, p)), .agg (aggC (subPG (subPG (mulPG ((sl)) ((sl)) (p)) (x1) (p)) (x2) (p), (p))), undef, undef, undef, undef, undef, undef, undef, undef, undef, undef, undef, undef, undef, undef, undef])), defers := [] } ?_
      exact ⟨rfl, g4, rfl, HG.out⟩
    ·have GEg4 := Lib.hid HG.out.b.size
     have APg4 := Lib.hid HG.out.h.apart
     replace HG := Lib.hid (HG.out.new (aggC (noP, ⟨#[]⟩)) 66)
     have HS := Lib.hid (HG.out.h.tail)
     refine sq_allock (some 6) 66 (aggC (noP, ⟨#[]⟩)) (zero_rq _) HS.out ?_
     generalize v401.alloc _ = u409 at *
     generalize v401.heap.size = g4 at *
     refine sq_done ?_
     refine m_maskk (M' := 5759) ?_
     refine m_seqi (f := 3) [(false, 7)] 5887 HS.out ?_
     refine sq_ci (some 42) (meetsQ_less _ _) (pc_less (mulPG ((sl)) ((sl)) (p)) ((p)) (x1) (p) _) (by kernel_rfl) ?_
     rintro e v410 ⟨rfl, bw⟩
     replace HG := Lib.hid (HG.out.on bw)
     have HS := Lib.hid (HG.out.h.tail)
     clear bw
     refine ⟨_, rfl, HS.out, ?_⟩
     refine sq_done ?_
     refine m_maskk (M' := 5887) ?_
     refine m_seqi (f := 2) [(true, 8)] 6143 HS.out ?_
     refine sq_psk [(8, .iface 66 (.agg (aggC (subPG (mulPG ((sl)) ((sl)) (p)) (x1) (p), (p)))))] ?_
     refine sq_done ?_
     refine m_maskk (M' := 6143) ?_
     refine m_seqi (f := 1) [(false, 11)] 8191 HS.out ?_
     refine sq_ci (some 46) (meetsQ_less _ _) (pc_less (subPG (mulPG ((sl)) ((sl)) (p)) (x1) (p)) ((p)) (x2) (p) _) (by kernel_rfl) ?_
     rintro e v411 ⟨rfl, bw⟩
     replace HG := Lib.hid (HG.out.on bw)
     have HS := Lib.hid (HG.out.h.tail)
     clear bw
     refine ⟨_, rfl, HS.out, ?_⟩
     refine sq_done ?_
     refine m_maskk (M' := 8191) ?_
     refine m_seqi (f := 0) [(false, 13)] 16383 HS.out ?_
     have HN := Lib.hid (HG.out.h _ (.head _))
     replace HG := Lib.hid (HG.out.putAt GEg4.out APg4.out (aggC (subPG (subPG (mulPG ((sl)) ((sl)) (p)) (x1) (p)) (x2) (p), (p))))
     have HS := Lib.hid (HG.out.h.tail)
     refine sq_stk 66 g4 (aggC (subPG (subPG (mulPG ((sl)) ((sl)) (p)) (x1) (p)) (x2) (p), (p))) HN.out Tryz.infoRCq rfl HS.out ?_
     clear HN
     generalize World.setRow _ g4 _ = t412 at *
     refine sq_done ?_
     refine m_maskk (M' := 16383) ?_
     refine m_donei { tmps := List.toArray (List.append [.agg (spQ (false, x1, y1) p), .agg (spQ (false, x2, y2) p), .pointer (some ⟨w.heap.size, 0, none⟩), .pointer (some ⟨(w.heap.size + 1), 0, none⟩), .pointer (some ⟨(w.heap.size + 1 + 1), 0, none⟩), .pointer (some ⟨g2, 0, none⟩), .pointer (some ⟨g4, 0, none⟩), undef, .bool false, .pointer (some ⟨w.heap.size, 0, none⟩), .bool false, undef, .bool false, .pointer (some ⟨(w.heap.size + 1), 0, none⟩), .bool false, undef, .bool false, .pointer (some ⟨w.heap.size, 1, none⟩), .agg (aggC (x1, p)), .pointer (some ⟨(w.heap.size + 1), 1, none⟩), .agg (aggC (x2, p)), j21, j22, j23, j24, j25, j26, j27, j28, j29, .bool false, undef, .agg (spQ (false, x1, y1) p), .agg (spQ (false, x2, y2) p), .agg (aggC (sl, p)), .agg (aggC ((sl), (p))), .iface 66 (.agg (aggC ((sl), (p)))), .agg (aggC ((sl), (p))), .agg (aggC (mulPG ((sl)) ((sl)) (p), (p))), .iface 66 (.agg (aggC (mulPG ((sl)) ((sl)) (p), (p))))] ([.pointer (some ⟨w.heap.size, 1, none⟩), .agg (aggC (x1, p)), .agg (aggC (subPG (mulPG ((sl)) ((sl)) (p)) (x1) (p), (p))), .iface 66 (.agg (aggC (subPG (mulPG ((sl)) ((sl)) (p)) (x1) (p), (p)))), .pointer (some ⟨(w.heap.size + 1), 1, none⟩), .agg (aggC (x2, p)), .agg (aggC (subPG (subPG (mulPG ((sl)) ((sl)) (p)) (x1) (p)) (x2) (p), (p))), undef, undef, undef, undef, undef, undef, undef, undef, undef, undef, undef, undef, undef, undef, undef])), defers := [] } ?_
     exact ⟨rfl, g4, rfl, HG.out⟩
   ·have GEg4 := Lib.hid HG.out.b.size
    have APg4 := Lib.hid HG.out.h.apart
    replace HG := Lib.hid (HG.out.new (aggC (noP, ⟨#[]⟩)) 66)
    have HS := Lib.hid (HG.out.h.tail)
    refine sq_allock (some 6) 66 (aggC (noP, ⟨#[]⟩)) (zero_rq _) HS.out ?_
    generalize v400.alloc _ = u413 at *
    generalize v400.heap.size = g4 at *
    refine sq_done ?_
    refine m_maskk (M' := 5735) ?_
    refine m_seqi (f := 5) [(false, 3)] 5743 HS.out ?_
    refine sq_ci (some 38) (meetsQ_times _ _) (pc_times ((sl)) ((p)) ((sl)) ((p)) _) (by kernel_rfl) ?_
    rintro e v414 ⟨rfl, bw⟩
    replace HG := Lib.hid (HG.out.on bw)
    have HS := Lib.hid (HG.out.h.tail)
    clear bw
    refine ⟨_, rfl, HS.out, ?_⟩
    refine sq_done ?_
    refine m_maskk (M' := 5743) ?_
    refine m_seqi (f := 4) [(true, 4)] 5759 HS.out ?_
    refine sq_psk [(4, .iface 66 (.agg (aggC (mulPG ((sl)) ((sl)) (p), (p)))))] ?_
    refine sq_done ?_
    refine m_maskk (M' := 5759) ?_
    refine m_seqi (f := 3) [(false, 7)] 5887 HS.out ?_
    refine sq_ci (some 42) (meetsQ_less _ _) (pc_less (mulPG ((sl)) ((sl)) (p)) ((p)) (x1) (p) _) (by kernel_rfl) ?_
    rintro e v415 ⟨rfl, bw⟩
    replace HG := Lib.hid (HG.out.on bw)
    have HS := Lib.hid (HG.out.h.tail)
    clear bw
    refine ⟨_, rfl, HS.out, ?_⟩
    refine sq_done ?_
    refine m_maskk (M' := 5887) ?_
    refine m_seqi (f := 2) [(true, 8)] 6143 HS.out ?_
    refine sq_psk [(8, .iface 66 (.agg (aggC (subPG (mulPG ((sl)) ((sl)) (p)) (x1) (p), (p)))))] ?_
    refine sq_done ?_
    refine m_maskk (M' := 6143) ?_
    refine m_seqi (f := 1) [(false, 11)] 8191 HS.out ?_
    refine sq_ci (some 46) (meetsQ_less _ _) (pc_less (subPG (mulPG ((sl)) ((sl)) (p)) (x1) (p)) ((p)) (x2) (p) _) (by kernel_rfl) ?_
    rintro e v416 ⟨rfl, bw⟩
    replace HG := Lib.hid (HG.out.on bw)
    have HS := Lib.hid (HG.out.h.tail)
    clear bw
    refine ⟨_, rfl, HS.out, ?_⟩
    refine sq_done ?_
    refine m_maskk (M' := 8191) ?_
    refine m_seqi (f := 0) [(false, 13)] 16383 HS.out ?_
    have HN := Lib.hid (HG.out.h _ (.head _))
    replace HG := Lib.hid (HG.out.putAt GEg4.out APg4.out (aggC (subPG (subPG (mulPG ((sl)) ((sl)) (p)) (x1) (p)) (x2) (p), (p))))
    have HS := Lib.hid (HG.out.h.tail)
    refine sq_stk 66 g4 (aggC (subPG (subPG (mulPG ((sl)) ((sl)) (p)) (x1) (p)) (x2) (p), (p))) HN.out Tryz.infoRCq rfl HS.out ?_
    clear HN
    generalize World.setRow _ g4 _ = t417 at *
    refine sq_done ?_
    refine m_maskk (M' := 16383) ?_
    refine m_donei { tmps := List.toArray (List.append [.agg (spQ (false, x1, y1) p), .agg (spQ (false, x2, y2) p), .pointer (some ⟨w.heap.size, 0, none⟩), .pointer (some ⟨(w.heap.size + 1), 0, none⟩), .pointer (some ⟨(w.heap.size + 1 + 1), 0, none⟩), .pointer (some ⟨g2, 0, none⟩), .pointer (some ⟨g4, 0, none⟩), undef, .bool false, .pointer (some ⟨w.heap.size, 0, none⟩), .bool false, undef, .bool false, .pointer (some ⟨(w.heap.size + 1), 0, none⟩), .bool false, undef, .bool false, .pointer (some ⟨w.heap.size, 1, none⟩), .agg (aggC (x1, p)), .pointer (some ⟨(w.heap.size + 1), 1, none⟩), .agg (aggC (x2, p)), j21, j22, j23, j24, j25, j26, j27, j28, j29, .bool false, undef, .agg (spQ (false, x1, y1) p), .agg (spQ (false, x2, y2) p), .agg (aggC (sl, p)), .agg (aggC ((sl), (p))), .iface 66 (.agg (aggC ((sl), (p)))), .agg (aggC ((sl), (p))), .agg (aggC (mulPG ((sl)) ((sl)) (p), (p))), .iface 66 (.agg (aggC (mulPG ((sl)) ((sl)) (p), (p))))] ([.pointer (some ⟨w.heap.size, 1, none⟩), .agg (aggC (x1, p)), .agg (aggC (subPG (mulPG ((sl)) ((sl)) (p)) (x1) (p), (p))), .iface 66 (.agg (aggC (subPG (mulPG ((sl)) ((sl)) (p)) (x1) (p), (p)))), .pointer (some ⟨(w.heap.size + 1), 1, none⟩), .agg (aggC (x2, p)), .agg (aggC (subPG (subPG (mulPG ((sl)) ((sl)) (p)) (x1) (p)) (x2) (p), (p))), undef, undef, undef, undef, undef, undef, undef, undef, undef, undef, undef, undef, undef, undef, undef])), defers := [] } ?_
    exact ⟨rfl, g4, rfl, HG.out⟩
  rintro e a t4 ⟨rfl, g4, rfl, hG⟩
  replace HG := Lib.hid hG
  clear hG
  refine ‹∀ a w, Code.wp _ _ _ a w → _› _ _ ?_
  go_upto_region 9 with (fail)
  replace HS := Lib.hid HG.out.h
  refine Code.wp_mono (Q := fun e a' w' => e = .normal ∧ ∃ (g5 : Nat), a' = { tmps := List.toArray (List.append [.agg (spQ (false, x1, y1) p), .agg (spQ (false, x2, y2) p), .pointer (some ⟨w.heap.size, 0, none⟩), .pointer (some ⟨(w.heap.size + 1), 0, none⟩), .pointer (some ⟨(w.heap.size + 1 + 1), 0, none⟩), .pointer (some ⟨g2, 0, none⟩), .pointer (some ⟨g4, 0, none⟩), .pointer (some ⟨g5, 0, none⟩), .bool false, .pointer (some ⟨w.heap.size, 0, none⟩), .bool false, undef, .bool false, .pointer (some ⟨(w.heap.size + 1), 0, none⟩), .bool false, undef, .bool false, .pointer (some ⟨w.heap.size, 1, none⟩), .agg (aggC (x1, p)), .pointer (some ⟨(w.heap.size + 1), 1, none⟩), .agg (aggC (x2, p)), j21, j22, j23, j24, j25, j26, j27, j28, j29, .bool false, undef, .agg (spQ (false, x1, y1) p), .agg (spQ (false, x2, y2) p), .agg (aggC (sl, p)), .agg (aggC ((sl), (p))), .iface 66 (.agg (aggC ((sl), (p)))), .agg (aggC ((sl), (p))), .agg (aggC (mulPG ((sl)) ((sl)) (p), (p))), .iface 66 (.agg (aggC (mulPG ((sl)) ((sl)) (p), (p))))] ([.pointer (some ⟨w.heap.size, 1, none⟩), .agg (aggC (x1, p)), .agg (aggC (subPG (mulPG ((sl)) ((sl)) (p)) (x1) (p), (p))), .iface 66 (.agg (aggC (subPG (mulPG ((sl)) ((sl)) (p)) (x1) (p), (p)))), .pointer (some ⟨(w.heap.size + 1), 1, none⟩), .agg (aggC (x2, p)), .agg (aggC (subPG (subPG (mulPG ((sl)) ((sl)) (p)) (x1) (p)) (x2) (p), (p))), .agg (aggC ((sl), (p))), .iface 66 (.agg (aggC ((sl), (p)))), .pointer (some ⟨w.heap.size, 1, none⟩), .agg (aggC (x1, p)), .iface 66 (.agg (aggC (x1, p))), .agg (aggC ((subPG (subPG (mulPG ((sl)) ((sl)) (p)) (x1) (p)) (x2) (p)), ((p)))), .agg (aggC (subPG (x1) ((subPG (subPG (mulPG ((sl)) ((sl)) (p)) (x1) (p)) (x2) (p))) p, p)), .agg (aggC (mulPG ((sl)) (subPG (x1) ((subPG (subPG (mulPG ((sl)) ((sl)) (p)) (x1) (p)) (x2) (p))) p) (p), (p))), .iface 66 (.agg (aggC (mulPG ((sl)) (subPG (x1) ((subPG (subPG (mulPG ((sl)) ((sl)) (p)) (x1) (p)) (x2) (p))) p) (p), (p)))), .pointer (some ⟨w.heap.size, 4, none⟩), .agg (aggC (y1, p)), .agg (aggC (subPG (mulPG ((sl)) (subPG (x1) ((subPG (subPG (mulPG ((sl)) ((sl)) (p)) (x1) (p)) (x2) (p))) p) (p)) (y1) (p), (p))), undef, undef, undef])), defers := [] } ∧ Begun w w' [(g5, aggC (subPG (mulPG ((sl)) (subPG (x1) ((subPG (subPG (mulPG ((sl)) ((sl)) (p)) (x1) (p)) (x2) (p))) p) (p)) (y1) (p), (p)), 66), (g4, aggC (subPG (subPG (mulPG ((sl)) ((sl)) (p)) (x1) (p)) (x2) (p), (p)), 66), (g2, aggC (sl, p), 66), (w.heap.size + 1, spQ (false, x2, y2) p, 68), (w.heap.size, spQ (false, x1, y1) p, 68)] (w.heap.size + 1 + 1) #[.bool false, .string ⟨#[]⟩, .string ⟨#[]⟩, .string ⟨#[]⟩, .string ⟨#[]⟩, .string ⟨#[]⟩, .string ⟨#[]⟩] 68) ?_ ?_
  rotate_left
  ·refine m_begin (S := fun w' => Held w' [(g4, aggC (subPG (subPG (mulPG ((sl)) ((sl)) (p)) (x1) (p)) (x2) (p), (p)), 66), (g2, aggC (sl, p), 66), (w.heap.size + 1, spQ (false, x2, y2) p, 68), (w.heap.size, spQ (false, x1, y1) p, 68)]) (by kernel_rfl) 14 (by kernel_rfl) ?_
   replace HG := Lib.hid HG.out.drew
   change wpM _ _ _ _ _ _ _ _ (World.drew _)
   generalize World.drew t4 = v500 at *
   have HS := Lib.hid HG.out.h
   refine m_seqi (f := 6) [(true, 0), (true, 1), (true, 2), (true, 3), (true, 4), (true, 5), (true, 9), (true, 10)] 1599 HS.out ?_
   refine sq_ldk (some 47) (ld_rq (.tail _ (.head _)) (k := 0) rfl rfl rfl) ?_
   refine sq_psk [(1, .iface 66 (.agg (aggC ((sl), (p)))))] ?_
   refine sq_psk [(2, .pointer (some ⟨w.heap.size, 1, none⟩))] ?_
   refine sq_ldk (some 50) (ld_rq (.tail _ (.tail _ (.tail _ (.head _)))) (k := 1) rfl rfl rfl) ?_
   refine sq_psk [(4, .iface 66 (.agg (aggC (x1, p))))] ?_
   refine sq_ldk (some 52) (ld_rq (.head _) (k := 0) rfl rfl rfl) ?_
   refine sq_psk [(9, .pointer (some ⟨w.heap.size, 4, none⟩))] ?_
   refine sq_ldk (some 57) (ld_rq (.tail _ (.tail _ (.tail _ (.head _)))) (k := 4) rfl rfl rfl) ?_
   refine sq_done ?_
   refine m_maskk (M' := 1599) ?_
   refine m_waysi (f := 5) [6, 12] ?_
   intro i hi
   rcases (by simpa using hi : i = 6 ∨ i = 12) with rfl | rfl
   ·refine sq_ci (some 53) (meetsQ_less _ _) (pc_less (x1) (p) ((subPG (subPG (mulPG ((sl)) ((sl)) (p)) (x1) (p)) (x2) (p))) (((p))) _) (by kernel_rfl) ?_
    rintro e v501 ⟨rfl, bw⟩
    replace HG := Lib.hid (HG.out.on bw)
    have HS := Lib.hid (HG.out.h)
    clear bw
    refine ⟨_, rfl, HS.out, ?_⟩
    refine sq_done ?_
    refine m_maskk (M' := 1663) ?_
    refine m_waysi (f := 4) [7, 12] ?_
    intro i hi
    rcases (by simpa using hi : i = 7 ∨ i = 12) with rfl | rfl
    ·refine sq_ci (some 54) (meetsQ_times _ _) (pc_times ((sl)) ((p)) (subPG (x1) ((subPG (subPG (mulPG ((sl)) ((sl)) (p)) (x1) (p)) (x2) (p))) p) (p) _) (by kernel_rfl) ?_
     rintro e v502 ⟨rfl, bw⟩
     replace HG := Lib.hid (HG.out.on bw)
     have HS := Lib.hid (HG.out.h)
     clear bw
     refine ⟨_, rfl, HS.out, ?_⟩
     refine sq_done ?_
     refine m_maskk (M' := 1791) ?_
     refine m_seqi (f := 3) [(true, 8)] 2047 HS.out ?_
     refine sq_psk [(8, .iface 66 (.agg (aggC (mulPG ((sl)) (subPG (x1) ((subPG (subPG (mulPG ((sl)) ((sl)) (p)) (x1) (p)) (x2) (p))) p) (p), (p)))))] ?_
     refine sq_done ?_
     refine m_maskk (M' := 2047) ?_
     refine m_waysi (f := 2) [11, 12] ?_
     intro i hi
     rcases (by simpa using hi : i = 11 ∨ i = 12) with rfl | rfl
     ·refine sq_ci (some 58) (meetsQ_less _ _) (pc_less (mulPG ((sl)) (subPG (x1) ((subPG (subPG (mulPG ((sl)) ((sl)) (p)) (x1) (p)) (x2) (p))) p) (p)) ((p)) (y1) (p) _) (by kernel_rfl) ?_
      rintro e v503 ⟨rfl, bw⟩
      replace HG := Lib.hid (HG.out.on bw)
      have HS := Lib.hid (HG.out.h)
      clear bw
      refine ⟨_, rfl, HS.out, ?_⟩
      refine sq_done ?_
      refine m_maskk (M' := 4095) ?_
      refine m_seqi (f := 1) [(false, 12)] 8191 HS.out ?_
      have GEg5 := Lib.hid HG.out.b.size
      have APg5 := Lib.hid HG.out.h.apart
      replace HG := Lib.hid (HG.out.new (aggC (noP, ⟨#[]⟩)) 66)
      have HS := Lib.hid (HG.out.h.tail)
      refine sq_allock (some 7) 66 (aggC (noP, ⟨#[]⟩)) (zero_rq _) HS.out ?_
      generalize v503.alloc _ = u504 at *
      generalize v503.heap.size = g5 at *
      refine sq_done ?_
      refine m_maskk (M' := 8191) ?_
      refine m_seqi (f := 0) [(false, 13)] 16383 HS.out ?_
      have HN := Lib.hid (HG.out.h _ (.head _))
      replace HG := Lib.hid (HG.out.putAt GEg5.out APg5.out (aggC (subPG (mulPG ((sl)) (subPG (x1) ((subPG (subPG (mulPG ((sl)) ((sl)) (p)) (x1) (p)) (x2) (p))) p) (p)) (y1) (p), (p))))
      have HS := Lib.hid (HG.out.h.tail)
      refine sq_stk 66 g5 (aggC (subPG (mulPG ((sl)) (subPG (x1) ((subPG (subPG (mulPG ((sl)) ((sl)) (p)) (x1) (p)) (x2) (p))) p) (p)) (y1) (p), (p))) HN.out Tryz.infoRCq rfl HS.out ?_
      clear HN
      generalize World.setRow _ g5 _ = t505 at *
      refine sq_done ?_
      refine m_maskk (M' := 16383) ?_
      refine m_donei { tmps := List.toArray (List.append [.agg (spQ (false, x1, y1) p), .agg (spQ (false, x2, y2) p), .pointer (some ⟨w.heap.size, 0, none⟩), .pointer (some ⟨(w.heap.size + 1), 0, none⟩), .pointer (some ⟨(w.heap.size + 1 + 1), 0, none⟩), .pointer (some ⟨g2, 0, none⟩), .pointer (some ⟨g4, 0, none⟩), .pointer (some ⟨g5, 0, none⟩), .bool false, .pointer (some ⟨w.heap.size, 0, none⟩), .bool false, undef, .bool false, .pointer (some ⟨(w.heap.size + 1), 0, none⟩), .bool false, undef, .bool false, .pointer (some ⟨w.heap.size, 1, none⟩), .agg (aggC (x1, p)), .pointer (some ⟨(w.heap.size + 1), 1, none⟩), .agg (aggC (x2, p)), j21, j22, j23, j24, j25, j26, j27, j28, j29, .bool false, undef, .agg (spQ (false, x1, y1) p), .agg (spQ (false, x2, y2) p), .agg (aggC (sl, p)), .agg (aggC ((sl), (p))), .iface 66 (.agg (aggC ((sl), (p)))), .agg (aggC ((sl), (p))), .agg (aggC (mulPG ((sl)) ((sl)) (p), (p))), .iface 66 (.agg (aggC (mulPG ((sl)) ((sl)) (p), (p))))] ([.pointer (some ⟨w.heap.size, 1, none⟩), .agg (aggC (x1, p)), .agg (aggC (subPG (mulPG ((sl)) ((sl)) (p)) (x1) (p), (p))), .iface 66 (.agg (aggC (subPG (mulPG ((sl)) ((sl)) (p)) (x1) (p), (p)))), .pointer (some ⟨(w.heap.size + 1), 1, none⟩), .agg (aggC (x2, p)), .agg (aggC (subPG (subPG (mulPG ((sl)) ((sl)) (p)) (x1) (p)) (x2) (p), (p))), .agg (aggC ((sl), (p))), .iface 66 (.agg (aggC ((sl), (p)))), .pointer (some ⟨w.heap.size, 1, none⟩), .agg (aggC (x1, p)), .iface 66 (.agg (aggC (x1, p))), .agg (aggC ((subPG (subPG (mulPG ((sl)) ((sl)) (p)) (x1) (p)) (x2) (p)), ((p)))), .agg (aggC (subPG (x1) ((subPG (subPG (mulPG ((sl)) ((sl)) (p)) (x1) (p)) (x2) (p))) p, p)), .agg (aggC (mulPG ((sl)) (subPG (x1) ((subPG (subPG (mulPG ((sl)) ((sl)) (p)) (x1) (p)) (x2) (p))) p) (p), (p))), .iface 66 (.agg (aggC (mulPG ((sl)) (subPG (x1) ((subPG (subPG (mulPG ((sl)) ((sl)) (p)) (x1) (p)) (x2) (p))) p) (p), (p)))), .pointer (some ⟨w.heap.size, 4, none⟩), .agg (aggC (y1, p)), .agg (aggC (subPG (mulPG ((sl)) (subPG (x1) ((subPG (subPG (mulPG ((sl)) ((sl)) (p)) (x1) (p)) (x2) (p))) p) (p)) (y1) (p), (p))), undef, undef, undef])), defers := [] } ?_
      exact ⟨rfl, g5, rfl, HG.out⟩
     ·have GEg5 := Lib.hid HG.out.b.size
      have APg5 := Lib.hid HG.out.h.apart
      replace HG := Lib.hid (HG.out.new (aggC (noP, ⟨#[]⟩)) 66)
      have HS := Lib.hid (HG.out.h.tail)
      refine sq_allock (some 7) 66 (aggC (noP, ⟨#[]⟩)) (zero_rq _) HS.out ?_
      generalize v502.alloc _ = u506 at *
      generalize v502.heap.size = g5 at *
      refine sq_done ?_
      refine m_maskk (M' := 6143) ?_
      refine m_seqi (f := 1) [(false, 11)] 8191 HS.out ?_
      refine sq_ci (some 58) (meetsQ_less _ _) (pc_less (mulPG ((sl)) (subPG (x1) ((subPG (subPG (mulPG ((sl)) ((sl)) (p)) (x1) (p)) (x2) (p))) p) (p)) ((p)) (y1) (p) _) (by kernel_rfl) ?_
      rintro e v507 ⟨rfl, bw⟩
      replace HG := Lib.hid (HG.out.on bw)
      have HS := Lib.hid (HG.out.h.tail)
      clear bw
      refine ⟨_, rfl, HS.out, ?_⟩
      refine sq_done ?_
      refine m_maskk (M' := 8191) ?_
      refine m_seqi (f := 0) [(false, 13)] 16383 HS.out ?_
      have HN := Lib.hid (HG.out.h _ (.head _))
      replace HG := Lib.hid (HG.out.putAt GEg5.out APg5.out (aggC (subPG (mulPG ((sl)) (subPG (x1) ((subPG (subPG (mulPG ((sl)) ((sl)) (p)) (x1) (p)) (x2) (p))) p) (p)) (y1) (p), (p))))
      have HS := Lib.hid (HG.out.h.tail)
      refine sq_stk 66 g5 (aggC (subPG (mulPG ((sl)) (subPG (x1) ((subPG (subPG (mulPG ((sl)) ((sl)) (p)) (x1) (p)) (x2) (p))) p) (p)) (y1) (p), (p))) HN.out Tryz.infoRCq rfl HS.out ?_
      clear HN
      generalize World.setRow _ g5 _ = t508 at *
      refine sq_done ?_
      refine m_maskk (M' := 16383) ?_
      refine m_donei { tmps := List.toArray (List.append [.agg (spQ (false, x1, y1) p), .agg (spQ (false, x2, y2) p), .pointer (some ⟨w.heap.size, 0, none⟩), .pointer (some ⟨(w.heap.size + 1), 0, none⟩), .pointer (some ⟨(w.heap.size + 1 + 1), 0, none⟩), .pointer (some ⟨g2, 0, none⟩), .pointer (some ⟨g4, 0, none⟩), .pointer (some ⟨g5, 0, none⟩), .bool false, .pointer (some ⟨w.heap.size, 0, none⟩), .bool false, undef, .bool false, .pointer (some ⟨(w.heap.size + 1), 0, none⟩), .bool false, undef, .bool false, .pointer (some ⟨w.heap.size, 1, none⟩), .agg (aggC (x1, p)), .pointer (some ⟨(w.heap.size + 1), 1, none⟩), .agg (aggC (x2, p)), j21, j22, j23, j24, j25, j26, j27, j28, j29, .bool false, undef, .agg (spQ (false, x1, y1) p), .agg (spQ (false, x2, y2) p), .agg (aggC (sl, p)), .agg (aggC ((sl), (p))), .iface 66 (.agg (aggC ((sl), (p)))), .agg (aggC ((sl), (p))), .agg (aggC (mulPG ((sl)) ((sl)) (p), (p))), .iface 66 (.agg (aggC (mulPG ((sl)) ((sl)) (p), (p))))] ([.pointer (some ⟨w.heap.size, 1, none⟩), .agg (aggC (x1, p)), .agg (aggC (subPG (mulPG ((sl)) ((sl)) (p)) (x1) (p), (p))), .iface 66 (.agg (aggC (subPG (mulPG ((sl)) ((sl)) (p)) (x1) (p), (p)))), .pointer (some ⟨(w.heap.size + 1), 1, none⟩), .agg (aggC (x2, p)), .agg (aggC (subPG (subPG (mulPG ((sl)) ((sl)) (p)) (x1) (p)) (x2) (p), (p))), .agg (aggC ((sl), (p))), .iface 66 (.agg (aggC ((sl), (p)))), .pointer (some ⟨w.heap.size, 1, none⟩), .agg (aggC (x1, p)), .iface 66 (.agg (aggC (x1, p))), .agg (aggC ((subPG (subPG (mulPG ((sl)) ((sl)) (p)) (x1) (p)) (x2) (p)), ((p)))), .agg (aggC (subPG (x1) ((subPG (subPG (mulPG ((sl)) ((sl)) (p)) (x1) (p)) (x2) (p))) p, p)), .agg (aggC (mulPG ((sl)) (subPG (x1) ((subPG (subPG (mulPG ((sl)) ((sl)) (p)) (x1) (p)) (x2) (p))) p) (p), (p))), .iface 66 (.agg (aggC (mulPG ((sl)) (subPG (x1) ((subPG (subPG (mulPG ((sl)) ((sl)) (p)) (x1) (p)) (x2) (p))) p) (p), (p)))), .pointer (some ⟨w.heap.size, 4, none⟩), .agg (aggC (y1, p)), .agg (aggC (subPG (mulPG ((sl)) (subPG (x1) ((subPG (subPG (mulPG ((sl)) ((sl)) (p)) (x1) (p)) (x2) (p))) p) (p)) (y1) (p), (p))), undef, undef, undef])), defers := [] } ?_
      exact ⟨rfl, g5, rfl, HG.out⟩
    ·have GEg5 := Lib.hid HG.out.b.size
     have APg5 := Lib.hid HG.out.h.apart
     replace HG := Lib.hid (HG.out.new (aggC (noP, ⟨#[]⟩)) 66)
     have HS := Lib.hid (HG.out.h.tail)
     refine sq_allock (some 7) 66 (aggC (noP, ⟨#[]⟩)) (zero_rq _) HS.out ?_
     generalize v501.alloc _ = u509 at *
     generalize v501.heap.size = g5 at *
     refine sq_done ?_
     refine m_maskk (M' := 5759) ?_
     refine m_seqi (f := 3) [(false, 7)] 5887 HS.out ?_
     refine sq_ci (some 54) (meetsQ_times _ _) (pc_times ((sl)) ((p)) (subPG (x1) ((subPG (subPG (mulPG ((sl)) ((sl)) (p)) (x1) (p)) (x2) (p))) p) (p) _) (by kernel_rfl) ?_
     rintro e v510 ⟨rfl, bw⟩
     replace HG := Lib.hid (HG.out.on bw)
     have HS := Lib.hid (HG.out.h.tail)
     clear bw
     refine ⟨_, rfl, HS.out, ?_⟩
     refine sq_done ?_
     refine m_maskk (M' := 5887) ?_
     refine m_seqi (f := 2) [(true, 8)] 6143 HS.out ?_
     refine sq_psk [(8, .iface 66 (.agg (aggC (mulPG ((sl)) (subPG (x1) ((subPG (subPG (mulPG ((sl)) ((sl)) (p)) (x1) (p)) (x2) (p))) p) (p), (p)))))] ?_
     refine sq_done ?_
     refine m_maskk (M' := 6143) ?_
     refine m_seqi (f := 1) [(false, 11)] 8191 HS.out ?_
     refine sq_ci (some 58) (meetsQ_less _ _) (pc_less (mulPG ((sl)) (subPG (x1) ((subPG (subPG (mulPG ((sl)) ((sl)) (p)) (x1) (p)) (x2) (p))) p) (p)) ((p)) (y1) (p) _) (by kernel_rfl) ?_
     rintro e v511 ⟨rfl, bw⟩
     replace HG := Lib.hid (HG.out.on bw)
     have HS := Lib.hid (HG.out.h.tail)
     clear bw
     refine ⟨_, rfl, HS.out, ?_⟩
     refine sq_done ?_
     refine m_maskk (M' := 8191) ?_
     refine m_seqi (f := 0) [(false, 13)] 16383 HS.out ?_
     have HN := Lib.hid (HG.out.h _ (.head _))
     replace HG := Lib.hid (HG.out.putAt GEg5.out APg5.out (aggC (subPG (mulPG ((sl)) (subPG (x1) ((subPG (subPG (mulPG ((sl)) ((sl)) (p)) (x1) (p)) (x2) (p))) p) (p)) (y1) (p), (p))))
     have HS := Lib.hid (HG.out.h.tail)
     refine sq_stk 66 g5 (aggC (subPG (mulPG ((sl)) (subPG (x1) ((subPG (subPG (mulPG ((sl)) ((sl)) (p)) (x1) (p)) (x2) (p))) p) (p)) (y1) (p), (p))) HN.out Tryz.infoRCq rfl HS.out ?_
     clear HN
     generalize World.setRow _ g5 _ = t512 at *
     refine sq_done ?_
     refine m_maskk (M' := 16383) ?_
     refine m_donei { tmps := List.toArray (List.append [.agg (spQ (false, x1, y1) p), .agg (spQ (false, x2, y2) p), .pointer (some ⟨w.heap.size, 0, none⟩), .pointer (some ⟨(w.heap.size + 1), 0, none⟩), .pointer (some ⟨(w.heap.size + 1 + 1), 0, none⟩), .pointer (some ⟨g2, 0, none⟩), .pointer (some ⟨g4, 0, none⟩), .pointer (some ⟨g5, 0, none⟩), .bool false, .pointer (some ⟨w.heap.size, 0, none⟩), .bool false, undef, .bool false, .pointer (some ⟨(w.heap.size + 1), 0, none⟩), .bool false, undef, .bool false, .pointer (some ⟨w.heap.size, 1, none⟩), .agg (aggC (x1, p)), .pointer (some ⟨(w.heap.size + 1), 1, none⟩), .agg (aggC (x2, p)), j21, j22, j23, j24, j25, j26, j27, j28, j29, .bool false, undef, .agg (spQ (false, x1, y1) p), .agg (spQ (false, x2, y2) p), .agg (aggC (sl, p)), .agg (aggC ((sl), (p))), .iface 66 (.agg (aggC ((sl), (p)))), .agg (aggC ((sl), (p))), .agg (aggC (mulPG ((sl)) ((sl)) (p), (p))), .iface 66 (.agg (aggC (mulPG ((sl)) ((sl)) (p), (p))))] ([.pointer (some ⟨w.heap.size, 1, none⟩), .agg (aggC (x1, p)), .agg (aggC (subPG (mulPG ((sl)) ((sl)) (p)) (x1) (p), (p))), .iface 66 (.agg (aggC (subPG (mulPG ((sl)) ((sl)) (p)) (x1) (p), (p)))), .pointer (some ⟨(w.heap.size + 1), 1, none⟩), .agg (aggC (x2, p)), .agg (aggC (subPG (subPG (mulPG ((sl)) ((sl)) (p)) (x1) (p)) (x2) (p), (p))), .agg (aggC ((sl), (p))), .iface 66 (.agg (aggC ((sl), (p)))), .pointer (some ⟨w.heap.size, 1, none⟩), .agg (aggC (x1, p)), .iface 66 (.agg (aggC (x1, p))), .agg (aggC ((subPG (subPG (mulPG ((sl)) ((sl)) (p)) (x1) (p)) (x2) (p)), ((p)))), .agg (aggC (subPG (x1) ((subPG (subPG (mulPG ((sl)) ((sl)) (p)) (x1) (p)) (x2) (p))) p, p)), .agg (aggC (mulPG ((sl)) (subPG (x1) ((subPG (subPG (mulPG ((sl)) ((sl)) (p)) (x1) (p)) (x2) (p))) p) (p), (p))), .iface 66 (.agg (aggC (mulPG ((sl)) (subPG (x1) ((subPG (subPG (mulPG ((sl)) ((sl)) (p)) (x1) (p)) (x2) (p))) p) (p), (p)))), .pointer (some ⟨w.heap.size, 4, none⟩), .agg (aggC (y1, p)), .agg (aggC (subPG (mulPG ((sl)) (subPG (x1) ((subPG (subPG (mulPG ((sl)) ((sl)) (p)) (x1) (p)) (x2) (p))) p) (p)) (y1) (p), (p))), undef, undef, undef])), defers := [] } ?_
     exact ⟨rfl, g5, rfl, HG.out⟩
   ·have GEg5 := Lib.hid HG.out.b.size
    have APg5 := Lib.hid HG.out.h.apart
    replace HG := Lib.hid (HG.out.new (aggC (noP, ⟨#[]⟩)) 66)
    have HS := Lib.hid (HG.out.h.tail)
    refine sq_allock (some 7) 66 (aggC (noP, ⟨#[]⟩)) (zero_rq _) HS.out ?_
    generalize v500.alloc _ = u513 at *
    generalize v500.heap.size = g5 at *
    refine sq_done ?_
    refine m_maskk (M' := 5695) ?_
    refine m_seqi (f := 4) [(false, 6)] 5759 HS.out ?_
    refine sq_ci (some 53) (meetsQ_less _ _) (pc_less (x1) (p) ((subPG (subPG (mulPG ((sl)) ((sl)) (p)) (x1) (p)) (x2) (p))) (((p))) _) (by kernel_rfl) ?_
    rintro e v514 ⟨rfl, bw⟩
    replace HG := Lib.hid (HG.out.on bw)
    have HS := Lib.hid (HG.out.h.tail)
    clear bw
    refine ⟨_, rfl, HS.out, ?_⟩
    refine sq_done ?_
    refine m_maskk (M' := 5759) ?_
    refine m_seqi (f := 3) [(false, 7)] 5887 HS.out ?_
    refine sq_ci (some 54) (meetsQ_times _ _) (pc_times ((sl)) ((p)) (subPG (x1) ((subPG (subPG (mulPG ((sl)) ((sl)) (p)) (x1) (p)) (x2) (p))) p) (p) _) (by kernel_rfl) ?_
    rintro e v515 ⟨rfl, bw⟩
    replace HG := Lib.hid (HG.out.on bw)
    have HS := Lib.hid (HG.out.h.tail)
    clear bw
    refine ⟨_, rfl, HS.out, ?_⟩
    refine sq_done ?_
    refine m_maskk (M' := 5887) ?_
    refine m_seqi (f := 2) [(true, 8)] 6143 HS.out ?_
    refine sq_psk [(8, .iface 66 (.agg (aggC (mulPG ((sl)) (subPG (x1) ((subPG (subPG (mulPG ((sl)) ((sl)) (p)) (x1) (p)) (x2) (p))) p) (p), (p)))))] ?_
    refine sq_done ?_
    refine m_maskk (M' := 6143) ?_
    refine m_seqi (f := 1) [(false, 11)] 8191 HS.out ?_
    refine sq_ci (some 58) (meetsQ_less _ _) (pc_less (mulPG ((sl)) (subPG (x1) ((subPG (subPG (mulPG ((sl)) ((sl)) (p)) (x1) (p)) (x2) (p))) p) (p)) ((p)) (y1) (p) _) (by kernel_rfl) ?_
    rintro e v516 ⟨rfl, bw⟩
    replace HG := Lib.hid (HG.out.on bw)
    have HS := Lib.hid (HG.out.h.tail)
    clear bw
    refine ⟨_, rfl, HS.out, ?_⟩
    refine sq_done ?_
    refine m_maskk (M' := 8191) ?_
    refine m_seqi (f := 0) [(false, 13)] 16383 HS.out ?_
    have HN := Lib.hid (HG.out.h _ (.head _))
    replace HG := Lib.hid (HG.out.putAt GEg5.out APg5.out (aggC (subPG (mulPG ((sl)) (subPG (x1) ((subPG (subPG (mulPG ((sl)) ((sl)) (p)) (x1) (p)) (x2) (p))) p) (p)) (y1) (p), (p))))
    have HS := Lib.hid (HG.out.h.tail)
    refine sq_stk 66 g5 (aggC (subPG (mulPG ((sl)) (subPG (x1) ((subPG (subPG (mulPG ((sl)) ((sl)) (p)) (x1) (p)) (x2) (p))) p) (p)) (y1) (p), (p))) HN.out Tryz.infoRCq rfl HS.out ?_
    clear HN
    generalize World.setRow _ g5 _ = t517 at *
    refine sq_done ?_
    refine m_maskk (M' := 16383) ?_
    refine m_donei { tmps := List.toArray (List.append [.agg (spQ (false, x1, y1) p), .agg (spQ (false, x2, y2) p), .pointer (some ⟨w.heap.size, 0, none⟩), .pointer (some ⟨(w.heap.size + 1), 0, none⟩), .pointer (some ⟨(w.heap.size + 1 + 1), 0, none⟩), .pointer (some ⟨g2, 0, none⟩), .pointer (some ⟨g4, 0, none⟩), .pointer (some ⟨g5, 0, none⟩), .bool false, .pointer (some ⟨w.heap.size, 0, none⟩), .bool false, undef, .bool false, .pointer (some ⟨(w.heap.size + 1), 0, none⟩), .bool false, undef, .bool false, .pointer (some ⟨w.heap.size, 1, none⟩), .agg (aggC (x1, p)), .pointer (some ⟨(w.heap.size + 1), 1, none⟩), .agg (aggC (x2, p)), j21, j22, j23, j24, j25, j26, j27, j28, j29, .bool false, undef, .agg (spQ (false, x1, y1) p), .agg (spQ (false, x2, y2) p), .agg (aggC (sl, p)), .agg (aggC ((sl), (p))), .iface 66 (.agg (aggC ((sl), (p)))), .agg (aggC ((sl), (p))), .agg (aggC (mulPG ((sl)) ((sl)) (p), (p))), .iface 66 (.agg (aggC (mulPG ((sl)) ((sl)) (p), (p))))] ([.pointer (some ⟨w.heap.size, 1, none⟩), .agg (aggC (x1, p)), .agg (aggC (subPG (mulPG ((sl)) ((sl)) (p)) (x1) (p), (p))), .iface 66 (.agg (aggC (subPG (mulPG ((sl)) ((sl)) (p)) (x1) (p), (p)))), .pointer (some ⟨(w.heap.size + 1), 1, none⟩), .agg (aggC (x2, p)), .agg (aggC (subPG (subPG (mulPG ((sl)) ((sl)) (p)) (x1) (p)) (x2) (p), (p))), .agg (aggC ((sl), (p))), .iface 66 (.agg (aggC ((sl), (p)))), .pointer (some ⟨w.heap.size, 1, none⟩), .agg (aggC (x1, p)), .iface 66 (.agg (aggC (x1, p))), .agg (aggC ((subPG (subPG (mulPG ((sl)) ((sl)) (p)) (x1) (p)) (x2) (p)), ((p)))), .agg (aggC (subPG (x1) ((subPG (subPG (mulPG ((sl)) ((sl)) (p)) (x1) (p)) (x2) (p))) p, p)), .agg (aggC (mulPG ((sl)) (subPG (x1) ((subPG (subPG (mulPG ((sl)) ((sl)) (p)) (x1) (p)) (x2) (p))) p) (p), (p))), .iface 66 (.agg (aggC (mulPG ((sl)) (subPG (x1) ((subPG (subPG (mulPG ((sl)) ((sl)) (p)) (x1) (p)) (x2) (p))) p) (p), (p)))), .pointer (some ⟨w.heap.size, 4, none⟩), .agg (aggC (y1, p)), .agg (aggC (subPG (mulPG ((sl)) (subPG (x1) ((subPG (subPG (mulPG ((sl)) ((sl)) (p)) (x1) (p)) (x2) (p))) p) (p)) (y1) (p), (p))), undef, undef, undef])), defers := [] } ?_
    exact ⟨rfl, g5, rfl, HG.out⟩
  rintro e a t5 ⟨rfl, g5, rfl, hG⟩
  replace HG := Lib.hid hG
  clear hG
  refine ‹∀ a w, Code.wp _ _ _ a w → _› _ _ ?_
  go_upto_region 10 with (fail)
  replace HS := Lib.hid HG.out.h
  refine wp_region_linek (S := fun w' => Held w' [(g5, aggC (subPG (mulPG ((sl)) (subPG (x1) ((subPG (subPG (mulPG ((sl)) ((sl)) (p)) (x1) (p)) (x2) (p))) p) (p)) (y1) (p), (p)), 66), (g4, aggC (subPG (subPG (mulPG ((sl)) ((sl)) (p)) (x1) (p)) (x2) (p), (p)), 66), (g2, aggC (sl, p), 66), (w.heap.size + 1, spQ (false, x2, y2) p, 68), (w.heap.size, spQ (false, x1, y1) p, 68)]) [(true, 0), (true, 1), (true, 2), (false, 3)] HS.out ?_
  refine sq_ldk (some 59) (ld_rq (.tail _ (.head _)) (k := 0) rfl rfl rfl) ?_
  refine sq_ldk (some 60) (ld_rq (.head _) (k := 0) rfl rfl rfl) ?_
  refine sq_pure (some 61) (.agg (spQ (false, (subPG (subPG (mulPG ((sl)) ((sl)) (p)) (x1) (p)) (x2) (p)), (subPG (mulPG ((sl)) (subPG (x1) ((subPG (subPG (mulPG ((sl)) ((sl)) (p)) (x1) (p)) (x2) (p))) p) (p)) (y1) (p))) ((p)))) (by kernel_rfl) (by kernel_rfl) (held_build 68 #[(1, (.tmp 59)), (2, (.tmp 60))] (by kernel_rfl) _ (by kernel_rfl) _ (built_spq _ _ _)) ?_
  have HE := Lib.hid (HG.out.put hge (spQ (false, (subPG (subPG (mulPG ((sl)) ((sl)) (p)) (x1) (p)) (x2) (p)), (subPG (mulPG ((sl)) (subPG (x1) ((subPG (subPG (mulPG ((sl)) ((sl)) (p)) (x1) (p)) (x2) (p))) p) (p)) (y1) (p))) ((p))))
  refine sq_stk 68 (w.heap.size + 1 + 1) (spQ (false, (subPG (subPG (mulPG ((sl)) ((sl)) (p)) (x1) (p)) (x2) (p)), (subPG (mulPG ((sl)) (subPG (x1) ((subPG (subPG (mulPG ((sl)) ((sl)) (p)) (x1) (p)) (x2) (p))) p) (p)) (y1) (p))) ((p))) HG.out.out Tryz.infoSPq rfl ((HG.out.h).setRow (HG.out.ne)) ?_
  refine sq_done ?_
  refine ‹∀ a w, Code.wp _ Code.ret _ a w → _› _ _ ?_
  refine wp_ret ?_
  try refine block_ret ?_
  try refine then_ret ?_
  exact bodyPost_ret (results_cell_row Tryz.results37 _ _ (w.heap.size + 1 + 1) _ _ _ _ (by kernel_rfl) HE.out.out Tryz.underlying68 rfl Tryz.infoSPq) (by kernel_rfl) ⟨⟨p, rfl⟩, HE.out.b⟩
theorem spotQ_plus (p : ByteArray) (a b : Tq) (w : World) : Calls Tryz.prog 37 #[.agg (spQ a p), .agg (spQ b p)] w (SumQPost (plusQ p a b) w) := by
 by_cases h : (a.1 || b.1) = true
 ·exact spotQ_early p a b h w
 ·obtain ⟨z1, x1, y1⟩ := a
  obtain ⟨z2, x2, y2⟩ := b
  cases z1 <;> cases z2 <;> first | exact spotQ_late p x1 y1 x2 y2 w | exact absurd rfl h
end Go.Proofs.YtdajgcgliidjbaaGreat

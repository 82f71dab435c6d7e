/-
  impl's coordinates: rests with their prime, called through an interface.
-/
import Derived.Test.YtkmmlfocidfghaaJTri
import Derived.Test.YtkmmlfocidfghaaYSpec
import Derived.Test.YtkmmlfocidfghaaJRests
namespace Go.Proofs.Ytkmmlfocidfghaa
open Go.RowKit

section
variable {P : Program} {ops : Array Oper} {Q : Exit → Act → World → Prop} {S : World → Prop} {K : Act → World → Prop} {i : Nat} {r : List (Bool × Nat)} {a : Act} {w : World}
def invokeOf : Op → Option (Operand × String × Array Operand)
  | .call ⟨.invoke x n, xs, _⟩ => some (x, n, xs)
  | _ => none
theorem invokeOf_spec {o : Op} {x : Operand} {n : String} {xs : Array Operand} (h : invokeOf o = some (x, n, xs)) : ∃ ts, o = .call ⟨.invoke x n, xs, ts⟩ := by
  unfold invokeOf at h
  split at h
  · simp only [Option.some.injEq, Prod.mk.injEq] at h
    obtain ⟨rfl, rfl, rfl⟩ := h
    exact ⟨_, rfl⟩
  · cases h
/-- A method called through an interface, by its contract. -/
theorem sq_ci (d : Option Tmp) {f : FuncId} {rv : Value} {n : String} {xs vs : Array Value} {R : Ending → World → Prop} (he : ∀ w, (callMethod rv n xs).run P w = .ok (.enter f vs) w) (C : Calls P f vs w R)
    (h : ((oAt ops i).dst, Nat.blt i ops.size, Region.wanted (oAt ops i) (yielded ops a.tmps), (invokeOf (oAt ops i).op).map (fun p => (a.eval p.1, p.2.1, p.2.2.map a.eval))) = (d, true, true, some (rv, n, xs)))
    (k : ∀ e w', R e w' → ∃ v, e = .returned v ∧ S w' ∧ seqH P ops Q S K r (a.put d v) w') : seqH P ops Q S K ((false, i) :: r) a w := by
  simp only [Prod.mk.injEq] at h
  obtain ⟨hd, hi, hw, hl⟩ := h
  cases hq : invokeOf (oAt ops i).op with
  | none => rw [hq] at hl; cases hl
  | some q =>
    obtain ⟨x, n', ys⟩ := q
    rw [hq] at hl
    simp only [Option.map_some, Option.some.injEq, Prod.mk.injEq] at hl
    obtain ⟨h1, rfl, h3⟩ := hl
    obtain ⟨ts, ho⟩ := invokeOf_spec hq
    refine sq_call d f vs hd hi hw (fun w' => ?_) (C.mono k)
    unfold execOp
    rw [ho]
    simp only [resolve, invoke]
    have e1 : (#[a.eval x] ++ ys.map a.eval)[0]? = some rv := by rw [h1, Array.getElem?_append_left (by simp)]; rfl
    have e2 : (#[a.eval x] ++ ys.map a.eval).extract 1 (#[a.eval x] ++ ys.map a.eval).size = xs := by
      rw [h3]
      apply Array.ext'
      simp
    simp only [Sem.run_bind, Sem.run_pure, Result.andThen_ok]
    rw [e1, e2]
    exact he w'
theorem g_ci (d : Option Tmp) {f : FuncId} {rv : Value} {n : String} {xs vs : Array Value} {R : Ending → World → Prop} (he : ∀ w, (callMethod rv n xs).run P w = .ok (.enter f vs) w) (C : Calls P f vs w R)
    (h : ((oAt ops i).dst, Nat.blt i ops.size, Region.wanted (oAt ops i) (yielded ops a.tmps), (invokeOf (oAt ops i).op).map (fun p => (a.eval p.1, p.2.1, p.2.2.map a.eval))) = (d, true, true, some (rv, n, xs)))
    (k : ∀ e w', R e w' → ∃ v, e = .returned v ∧ S w' ∧ SQ P ops Q S K r (a.put d v) w') : SQ P ops Q S K ((false, i) :: r) a w :=
  ⟨sq_ci d he C h fun e w' hR => by
    obtain ⟨v, h1, h2, h3⟩ := k e w' hR
    exact ⟨v, h1, h2, h3.out⟩⟩
end

/-! Which method is meant. -/
theorem meets_times (v x : Value) (w : World) : (callMethod (.iface 60 v) "loop.example/g00970/impl.times" #[x]).run Try.prog w = .ok (.enter 118 #[v, x]) w := by kernel_rfl
theorem meets_plus (v x : Value) (w : World) : (callMethod (.iface 60 v) "loop.example/g00970/impl.plus" #[x]).run Try.prog w = .ok (.enter 117 #[v, x]) w := by kernel_rfl
theorem meets_less (v x : Value) (w : World) : (callMethod (.iface 60 v) "loop.example/g00970/impl.less" #[x]).run Try.prog w = .ok (.enter 115 #[v, x]) w := by kernel_rfl
theorem meets_negative (v : Value) (w : World) : (callMethod (.iface 60 v) "loop.example/g00970/impl.negative" #[]).run Try.prog w = .ok (.enter 116 #[v]) w := by kernel_rfl
theorem meets_inverse (v : Value) (w : World) : (callMethod (.iface 60 v) "loop.example/g00970/impl.inverse" #[]).run Try.prog w = .ok (.enter 114 #[v]) w := by kernel_rfl
/-! Compared part by part. -/
theorem bl_iff {s t : ByteArray} : s.toList = t.toList ↔ s = t := by
  refine ⟨fun h => ?_, fun h => by rw [h]⟩
  rw [ByteArray.toList_eq, ByteArray.toList_eq] at h
  cases s; cases t
  exact congrArg ByteArray.mk (Array.toList_inj.1 h)
set_option maxRecDepth 8000 in
theorem yields_eqR {ops : Array Oper} {S : World → Prop} {o : Oper} {a : Act} (hw : Region.wanted o (yielded ops a.tmps) = true) (x y : Operand) (ho : o.op = .binOp .eql 60 x y 60) (s t : Pt) (b : Bool) (hb : decide (s = t) = b)
    (hx : a.eval x = .agg (aggT s)) (hy : a.eval y = .agg (aggT t)) : YieldsIf Try.prog ops S o (.bool b) a := by
  refine .inl ⟨hw, fun w _ => ?_⟩
  unfold aggT at hx hy
  unfold execOp
  simp only [ho, hx, hy]
  go_simp
  subst hb
  by_cases h1 : s.1 = t.1
  · by_cases h2 : s.2 = t.2
    · rw [if_pos (bl_iff.2 h1), if_pos (bl_iff.2 h2), decide_eq_true (Prod.ext h1 h2)]
    · rw [if_pos (bl_iff.2 h1), if_neg (fun e => h2 (bl_iff.1 e)), decide_eq_false (fun e => h2 (congrArg Prod.snd e))]
  · rw [if_neg (fun e => h1 (bl_iff.1 e)), decide_eq_false (fun e => h1 (congrArg Prod.fst e))]
/-! Blocks of a call: what is loaded of them. -/
theorem ld_s {L : List (Nat × Array Value × TypeId)} {g k : Nat} {C : Array Value} {t : TypeId} {s : ByteArray} (hm : (g, C, t) ∈ L) (h : C[k]? = some (.string s)) : ∀ w', Held w' L → (Instr.loadAt 9 (.pointer (some ⟨g, k, none⟩))).run Try.prog w' = .ok (.string s) w' :=
  fun w' hw => str_load ((cell_of_row w' g k _ _ _ (hw _ hm)).trans h)
theorem Try.infoRC : (Try.prog.info? 60).map (·.size) = some 2 := by kernel_rfl
theorem Try.partsRC : (structParts Try.prog 60).map (fun q => (q.1.cells.toList, q.2)) = some ([.string ⟨#[]⟩, .string ⟨#[]⟩], [(0, 1), (1, 1)]) := by kernel_rfl
theorem built_rc (a b : ByteArray) : Try.prog.built 60 [(0, .string a), (1, .string b)] = some (aggT (a, b)) := by
  cases hq : structParts Try.prog 60 with
  | none => have e := Try.partsRC; rw [hq] at e; cases e
  | some q =>
    obtain ⟨z, pl⟩ := q
    have e := Try.partsRC
    rw [hq] at e
    simp only [Option.map_some, Option.some.injEq, Prod.mk.injEq] at e
    obtain ⟨e1, rfl⟩ := e
    rw [built_parts hq]
    have ez : z.cells = #[] ++ #[.string ⟨#[]⟩] ++ #[.string ⟨#[]⟩] := Array.ext' (by rw [e1]; rfl)
    rw [ez, fill_step (R := #[.string a]) (off := 0) (n := 1) rfl rfl rfl rfl rfl]
    have e2 : (#[] ++ #[.string a] ++ #[.string ⟨#[]⟩] : Array Value) = #[.string a] ++ #[.string ⟨#[]⟩] ++ #[] := by simp
    rw [e2, fill_step (R := #[.string b]) (off := 1) (n := 1) rfl rfl rfl rfl rfl]
    simp [Instr.fill, aggT]
/-! The methods. -/
set_option maxRecDepth 8000 in
set_option maxHeartbeats 4000000 in
theorem rc_plus (x p y q : ByteArray) (w : World) : Calls Try.prog 117 #[.agg (aggT (x, p)), .agg (aggT (y, q))] w fun e w' => e = .returned (.agg (aggT (addR x y p, p))) ∧ Below w.heap.size w w' := by
  have HO := Lib.hid (addRest_i x y p)
  have HG0 := Lib.hid (begun3 (Held.none w) (aggT (x, p)) (aggT (y, q)) #[.string ⟨#[]⟩, .string ⟨#[]⟩] 60 60 60).drew
  have HS0 := Lib.hid HG0.out.h
  have hge : w.heap.size ≤ w.heap.size + 1 + 1 := by omega
  generalize addR x y p = r at *
  go_enter Try.func117, Try.ntmps117
  go_wp2_with fail
  generalize ((w.alloc _).alloc _).alloc _ = w0 at *
  refine sq_go (S := fun w' => Held w' [(w.heap.size + 1, aggT (y, q), 60), (w.heap.size, aggT (x, p), 60)]) [(true, 0), (true, 1), (true, 2), (true, 3), (true, 4), (true, 5), (true, 7), (true, 8), (false, 6), (true, 9), (false, 10)] (by kernel_rfl) (fun d _ _ _ _ h => by cases d <;> exact h) HS0.out ?_
  refine sq_ps [(0, .pointer (some ⟨w.heap.size, 0, none⟩))] (by kernel_rfl) ?_
  refine sq_ld (some 6) (ld_s (.tail _ (.head _)) (k := 0) rfl) (by kernel_rfl) ?_
  refine sq_ps [(2, .pointer (some ⟨(w.heap.size + 1), 0, none⟩))] (by kernel_rfl) ?_
  refine sq_ld (some 8) (ld_s (.head _) (k := 0) rfl) (by kernel_rfl) ?_
  refine sq_ps [(4, .pointer (some ⟨w.heap.size, 1, none⟩))] (by kernel_rfl) ?_
  refine sq_ld (some 10) (ld_s (.tail _ (.head _)) (k := 1) rfl) (by kernel_rfl) ?_
  refine sq_ps [(7, .pointer (some ⟨w.heap.size, 1, none⟩))] (by kernel_rfl) ?_
  refine sq_ld (some 13) (ld_s (.tail _ (.head _)) (k := 1) rfl) (by kernel_rfl) ?_
  refine sq_c (some 11) Try.func46 (HO.out _) (by kernel_rfl) ?_
  rintro e v1 ⟨rfl, bw1⟩
  have HG1 := Lib.hid (HG0.out.on bw1)
  have HS1 := Lib.hid HG1.out.h
  refine ⟨_, rfl, HS1.out, ?_⟩
  refine sq_pure (some 14) (.agg (aggT (r, p))) (by kernel_rfl) (by kernel_rfl) (held_build 60 #[(0, (.tmp 11)), (1, (.tmp 13))] (by kernel_rfl) _ (by kernel_rfl) _ (built_rc r p)) ?_
  have HE := Lib.hid (HG1.out.put hge (aggT (r, p)))
  refine sq_st 60 (w.heap.size + 1 + 1) (aggT (r, p)) HG1.out.out Try.infoRC rfl (by kernel_rfl) (HS1.out.setRow HG1.out.ne) (by kernel_rfl) ?_
  refine sq_done ?_
  refine (by assumption : ∀ (a : Act) (w_1 : World), Code.wp _ Code.ret _ a w_1 → _) _ _ ?_
  refine wp_ret ?_
  exact bodyPost_ret (results_cell_row Try.results117 _ _ (w.heap.size + 1 + 1) _ _ _ _ (by kernel_rfl) HE.out.out Try.underlying60 rfl Try.infoRC) (by kernel_rfl) ⟨rfl, HE.out.b⟩
set_option maxRecDepth 8000 in
set_option maxHeartbeats 4000000 in
theorem rc_less (x p y q : ByteArray) (w : World) : Calls Try.prog 115 #[.agg (aggT (x, p)), .agg (aggT (y, q))] w fun e w' => e = .returned (.agg (aggT (subR x y p, p))) ∧ Below w.heap.size w w' := by
  have HO := Lib.hid (subRest_i x y p)
  have HG0 := Lib.hid (begun3 (Held.none w) (aggT (x, p)) (aggT (y, q)) #[.string ⟨#[]⟩, .string ⟨#[]⟩] 60 60 60).drew
  have HS0 := Lib.hid HG0.out.h
  have hge : w.heap.size ≤ w.heap.size + 1 + 1 := by omega
  generalize subR x y p = r at *
  go_enter Try.func115, Try.ntmps115
  go_wp2_with fail
  generalize ((w.alloc _).alloc _).alloc _ = w0 at *
  refine sq_go (S := fun w' => Held w' [(w.heap.size + 1, aggT (y, q), 60), (w.heap.size, aggT (x, p), 60)]) [(true, 0), (true, 1), (true, 2), (true, 3), (true, 4), (true, 5), (true, 7), (true, 8), (false, 6), (true, 9), (false, 10)] (by kernel_rfl) (fun d _ _ _ _ h => by cases d <;> exact h) HS0.out ?_
  refine sq_ps [(0, .pointer (some ⟨w.heap.size, 0, none⟩))] (by kernel_rfl) ?_
  refine sq_ld (some 6) (ld_s (.tail _ (.head _)) (k := 0) rfl) (by kernel_rfl) ?_
  refine sq_ps [(2, .pointer (some ⟨(w.heap.size + 1), 0, none⟩))] (by kernel_rfl) ?_
  refine sq_ld (some 8) (ld_s (.head _) (k := 0) rfl) (by kernel_rfl) ?_
  refine sq_ps [(4, .pointer (some ⟨w.heap.size, 1, none⟩))] (by kernel_rfl) ?_
  refine sq_ld (some 10) (ld_s (.tail _ (.head _)) (k := 1) rfl) (by kernel_rfl) ?_
  refine sq_ps [(7, .pointer (some ⟨w.heap.size, 1, none⟩))] (by kernel_rfl) ?_
  refine sq_ld (some 13) (ld_s (.tail _ (.head _)) (k := 1) rfl) (by kernel_rfl) ?_
  refine sq_c (some 11) Try.func49 (HO.out _) (by kernel_rfl) ?_
  rintro e v1 ⟨rfl, bw1⟩
  have HG1 := Lib.hid (HG0.out.on bw1)
  have HS1 := Lib.hid HG1.out.h
  refine ⟨_, rfl, HS1.out, ?_⟩
  refine sq_pure (some 14) (.agg (aggT (r, p))) (by kernel_rfl) (by kernel_rfl) (held_build 60 #[(0, (.tmp 11)), (1, (.tmp 13))] (by kernel_rfl) _ (by kernel_rfl) _ (built_rc r p)) ?_
  have HE := Lib.hid (HG1.out.put hge (aggT (r, p)))
  refine sq_st 60 (w.heap.size + 1 + 1) (aggT (r, p)) HG1.out.out Try.infoRC rfl (by kernel_rfl) (HS1.out.setRow HG1.out.ne) (by kernel_rfl) ?_
  refine sq_done ?_
  refine (by assumption : ∀ (a : Act) (w_1 : World), Code.wp _ Code.ret _ a w_1 → _) _ _ ?_
  refine wp_ret ?_
  exact bodyPost_ret (results_cell_row Try.results115 _ _ (w.heap.size + 1 + 1) _ _ _ _ (by kernel_rfl) HE.out.out Try.underlying60 rfl Try.infoRC) (by kernel_rfl) ⟨rfl, HE.out.b⟩
set_option maxRecDepth 8000 in
set_option maxHeartbeats 4000000 in
theorem rc_times (x p y q : ByteArray) (w : World) : Calls Try.prog 118 #[.agg (aggT (x, p)), .agg (aggT (y, q))] w fun e w' => e = .returned (.agg (aggT (mulR x y p, p))) ∧ Below w.heap.size w w' := by
  have HO := Lib.hid (mulRest_i x y p)
  have HG0 := Lib.hid (begun3 (Held.none w) (aggT (x, p)) (aggT (y, q)) #[.string ⟨#[]⟩, .string ⟨#[]⟩] 60 60 60).drew
  have HS0 := Lib.hid HG0.out.h
  have hge : w.heap.size ≤ w.heap.size + 1 + 1 := by omega
  generalize mulR x y p = r at *
  go_enter Try.func118, Try.ntmps118
  go_wp2_with fail
  generalize ((w.alloc _).alloc _).alloc _ = w0 at *
  refine sq_go (S := fun w' => Held w' [(w.heap.size + 1, aggT (y, q), 60), (w.heap.size, aggT (x, p), 60)]) [(true, 0), (true, 1), (true, 2), (true, 3), (true, 4), (true, 5), (true, 7), (true, 8), (false, 6), (true, 9), (false, 10)] (by kernel_rfl) (fun d _ _ _ _ h => by cases d <;> exact h) HS0.out ?_
  refine sq_ps [(0, .pointer (some ⟨w.heap.size, 0, none⟩))] (by kernel_rfl) ?_
  refine sq_ld (some 6) (ld_s (.tail _ (.head _)) (k := 0) rfl) (by kernel_rfl) ?_
  refine sq_ps [(2, .pointer (some ⟨(w.heap.size + 1), 0, none⟩))] (by kernel_rfl) ?_
  refine sq_ld (some 8) (ld_s (.head _) (k := 0) rfl) (by kernel_rfl) ?_
  refine sq_ps [(4, .pointer (some ⟨w.heap.size, 1, none⟩))] (by kernel_rfl) ?_
  refine sq_ld (some 10) (ld_s (.tail _ (.head _)) (k := 1) rfl) (by kernel_rfl) ?_
  refine sq_ps [(7, .pointer (some ⟨w.heap.size, 1, none⟩))] (by kernel_rfl) ?_
  refine sq_ld (some 13) (ld_s (.tail _ (.head _)) (k := 1) rfl) (by kernel_rfl) ?_
  refine sq_c (some 11) Try.func28 (HO.out _) (by kernel_rfl) ?_
  rintro e v1 ⟨rfl, bw1⟩
  have HG1 := Lib.hid (HG0.out.on bw1)
  have HS1 := Lib.hid HG1.out.h
  refine ⟨_, rfl, HS1.out, ?_⟩
  refine sq_pure (some 14) (.agg (aggT (r, p))) (by kernel_rfl) (by kernel_rfl) (held_build 60 #[(0, (.tmp 11)), (1, (.tmp 13))] (by kernel_rfl) _ (by kernel_rfl) _ (built_rc r p)) ?_
  have HE := Lib.hid (HG1.out.put hge (aggT (r, p)))
  refine sq_st 60 (w.heap.size + 1 + 1) (aggT (r, p)) HG1.out.out Try.infoRC rfl (by kernel_rfl) (HS1.out.setRow HG1.out.ne) (by kernel_rfl) ?_
  refine sq_done ?_
  refine (by assumption : ∀ (a : Act) (w_1 : World), Code.wp _ Code.ret _ a w_1 → _) _ _ ?_
  refine wp_ret ?_
  exact bodyPost_ret (results_cell_row Try.results118 _ _ (w.heap.size + 1 + 1) _ _ _ _ (by kernel_rfl) HE.out.out Try.underlying60 rfl Try.infoRC) (by kernel_rfl) ⟨rfl, HE.out.b⟩
set_option maxRecDepth 8000 in
set_option maxHeartbeats 4000000 in
theorem rc_negative (x p : ByteArray) (w : World) : Calls Try.prog 116 #[.agg (aggT (x, p))] w fun e w' => e = .returned (.agg (aggT (negR x p, p))) ∧ Below w.heap.size w w' := by
  have HO := Lib.hid (negRest_i x p)
  have HG0 := Lib.hid (begun2 (Held.none w) (aggT (x, p)) #[.string ⟨#[]⟩, .string ⟨#[]⟩] 60 60).drew
  have HS0 := Lib.hid HG0.out.h
  have hge : w.heap.size ≤ w.heap.size + 1 := by omega
  generalize negR x p = r at *
  go_enter Try.func116, Try.ntmps116
  go_wp2_with fail
  generalize (w.alloc _).alloc _ = w0 at *
  refine sq_go (S := fun w' => Held w' [(w.heap.size, aggT (x, p), 60)]) [(true, 0), (true, 1), (true, 2), (true, 3), (true, 5), (true, 6), (false, 4), (true, 7), (false, 8)] (by kernel_rfl) (fun d _ _ _ _ h => by cases d <;> exact h) HS0.out ?_
  refine sq_ps [(0, .pointer (some ⟨w.heap.size, 0, none⟩))] (by kernel_rfl) ?_
  refine sq_ld (some 4) (ld_s (.head _) (k := 0) rfl) (by kernel_rfl) ?_
  refine sq_ps [(2, .pointer (some ⟨w.heap.size, 1, none⟩))] (by kernel_rfl) ?_
  refine sq_ld (some 6) (ld_s (.head _) (k := 1) rfl) (by kernel_rfl) ?_
  refine sq_ps [(5, .pointer (some ⟨w.heap.size, 1, none⟩))] (by kernel_rfl) ?_
  refine sq_ld (some 9) (ld_s (.head _) (k := 1) rfl) (by kernel_rfl) ?_
  refine sq_c (some 7) Try.func33 (HO.out _) (by kernel_rfl) ?_
  rintro e v1 ⟨rfl, bw1⟩
  have HG1 := Lib.hid (HG0.out.on bw1)
  have HS1 := Lib.hid HG1.out.h
  refine ⟨_, rfl, HS1.out, ?_⟩
  refine sq_pure (some 10) (.agg (aggT (r, p))) (by kernel_rfl) (by kernel_rfl) (held_build 60 #[(0, (.tmp 7)), (1, (.tmp 9))] (by kernel_rfl) _ (by kernel_rfl) _ (built_rc r p)) ?_
  have HE := Lib.hid (HG1.out.put hge (aggT (r, p)))
  refine sq_st 60 (w.heap.size + 1) (aggT (r, p)) HG1.out.out Try.infoRC rfl (by kernel_rfl) (HS1.out.setRow HG1.out.ne) (by kernel_rfl) ?_
  refine sq_done ?_
  refine (by assumption : ∀ (a : Act) (w_1 : World), Code.wp _ Code.ret _ a w_1 → _) _ _ ?_
  refine wp_ret ?_
  exact bodyPost_ret (results_cell_row Try.results116 _ _ (w.heap.size + 1) _ _ _ _ (by kernel_rfl) HE.out.out Try.underlying60 rfl Try.infoRC) (by kernel_rfl) ⟨rfl, HE.out.b⟩
set_option maxRecDepth 8000 in
set_option maxHeartbeats 4000000 in
theorem rc_inverse (x p : ByteArray) (w : World) : Calls Try.prog 114 #[.agg (aggT (x, p))] w fun e w' => e = .returned (.agg (aggT (invR x p, p))) ∧ Below w.heap.size w w' := by
  have HO := Lib.hid (inverseRest_i x p)
  have HG0 := Lib.hid (begun2 (Held.none w) (aggT (x, p)) #[.string ⟨#[]⟩, .string ⟨#[]⟩] 60 60)
  go_enter Try.func114, Try.ntmps114
  go_upto_region 1 with (fail)
  generalize (w.alloc _).alloc _ = w0 at *
  have d0 := (cell_of_row w0 w.heap.size 0 _ _ _ (HG0.out.h _ (.head _))).trans (show _ = some (Value.string x) from rfl)
  have d1 := (cell_of_row w0 w.heap.size 1 _ _ _ (HG0.out.h _ (.head _))).trans (show _ = some (Value.string p) from rfl)
  go_wp2_with fail
  refine (HO.out _).mono ?_
  rintro e w1 ⟨rfl, b1⟩
  have HG1 := Lib.hid (HG0.out.on b1)
  have HE := Lib.hid (HG1.out.put (Nat.le_succ _) (aggT (invR x p, p)))
  clear d0 d1 b1 HG0 HO
  have d1 := (cell_of_row w1 w.heap.size 1 _ _ _ (HG1.out.h _ (.head _))).trans (show _ = some (Value.string p) from rfl)
  go_wp2_with (first | refine store_v rfl 60 (.tmp 2) (.tmp 16) rfl (w.heap.size + 1) _ (aggT (invR x p, p)) rfl rfl HG1.out.out Try.infoRC rfl (by kernel_rfl) ?_)
  exact bodyPost_ret (results_cell_row Try.results114 _ _ (w.heap.size + 1) _ _ _ _ rfl HE.out.out Try.underlying60 rfl Try.infoRC) rfl ⟨rfl, HE.out.b⟩
end Go.Proofs.Ytkmmlfocidfghaa
